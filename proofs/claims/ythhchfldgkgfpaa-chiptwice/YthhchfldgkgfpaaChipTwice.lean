/-
  ChipTwice: a page that is programmed twice has the bits that both leave. No conditions.
-/
import Derived.Test.YthhchfldgkgfpaaRows
import Derived.Test.YthhchfldgkgfpaaAwake
import Derived.Test.YthhchfldgkgfpaaTold
import Derived.WalkKit
import Derived.ProofKit
import Derived.OpenShut
import Derived.ShutString
import Derived.ChangeOld
import Derived.Below
namespace Go.Proofs.Ythhchfldgkgfpaa.chipTwice
open Go.Proofs.Ythhchfldgkgfpaa.Plain
open Go.ChangeShapes Go.WideShapes Go.ChangeAt Go.RowKit
open Go.ChangeMaps (open_string shut_string)
set_option linter.unusedVariables false

theorem own : ownKnob Try.prog.godebug = none := by kernel_rfl
theorem laidOut : laidOutB Try.prog = true := by kernel_rfl

set_option maxRecDepth 100000 in
set_option maxHeartbeats 2000000 in
theorem walk (a0 : Int) (a1 : Int) (a2 : Int) (a3 : Bool) (w : World) (w0 : (Lit.int .i64 a0).wf = true) (w1 : (Lit.int .i64 a1).wf = true) (w2 : (Lit.int .i64 a2).wf = true) :
    Calls Try.prog 11 #[.int .i64 a0, .int .i64 a1, .int .i64 a2, .bool a3] w fun e w' => e = .returned (.bool true) ∧ Below w.heap.size w w' := by
  obtain ⟨k, hk, ek, -⟩ := mask_4095 a0
  obtain ⟨xa, hxa, eA, hA0⟩ := mask_255 a1
  obtain ⟨xb, hxb, eB, hB0⟩ := mask_255 a2
  have HA0 : Hid ((xa : Int) = a1 % 256) := hA0
  have HB0 : Hid ((xb : Int) = a2 % 256) := hB0
  clear hA0 hB0
  have h255 : bits .and .i64 (k : Int) 255 = ((k % 256 : Nat) : Int) := by rw [and_255]; omega
  obtain ⟨A, HA⟩ : ∃ A, Hid (wide ⟨#[255]⟩ = A) := ⟨_, rfl⟩
  have hA : A.size = 4096 := by rw [← HA.out]; exact wide_size _
  have HAu : Hid (∀ j, j < 4096 → ub A j = 255) := fun j hj => by rw [← HA.out, wide_ub _ _ hj, if_neg (by decide), one_size, Nat.mod_one]; rfl
  obtain ⟨x, Hx⟩ : ∃ x : Nat → Nat, Hid (x = fun j => if j = 1 ∧ a3 = true then xb else xa) := ⟨_, rfl⟩
  have Hx256 : Hid (∀ j, x j < 256) := fun j => by rw [Hx.out]; dsimp only; split <;> assumption
  go_enter Try.func11, Try.ntmps11
  go_wp2_with fail
  refine (awake_any _).mono ?_
  rintro e u1 ⟨rfl, b1⟩
  go_wp2_with fail
  refine (fresh_any 0 _ _ (one_ok 255)).mono ?_
  rintro e w2 ⟨b, rfl, hbb, hl, b2⟩
  rw [HA.out] at hl
  have HR2 := rn_start hl
  have hwb : w.heap.size ≤ b := Nat.le_trans b1.size hbb
  have HB2 : Hid (Below w.heap.size w w2) := below_then b1 b2
  clear hl b1 b2 hbb
  go_wp2_with fail
  go_loopw [11] (fun i wr => ∃ (j : Nat) (s : St), j ≤ 2 ∧ i = .int .i64 j ∧ Hid (Run 0 b w2 wr s) ∧ Hid (s.Plain (twiceA A k x j))) (fun i _ => (2 - intOf i).toNat)
  case atStart => exact ⟨0, newSt A, by omega, rfl, HR2, plain_new A⟩
  case round =>
    obtain ⟨j, s, hj, rfl, HR, HP⟩ := hrel
    by_cases hlt : j < 2
    · obtain ⟨y, Hy⟩ : ∃ y, Hid (x j = y) := ⟨_, rfl⟩
      have hy : y < 256 := by rw [← Hy.out]; exact Hx256.out j
      have H1 := say_en HP.out
      have H2 := prog_runs H1.1 H1.2 k hk [y] (by intro z hz; simp at hz; omega) (show 0 < 1 by decide)
      have H3 := prog_done H2 10 (by decide)
      have HS : Hid (((s.say (wordL [6])).say (wordL (2 :: 0 :: k / 256 :: k % 256 :: [y]))).say (List.replicate 10 15) |>.Plain (twiceA A k x (j + 1))) := by
        show (St.say _ _).Plain (progA _ k [x j])
        rw [Hy.out]; exact H3.1
      have HL0 : Hid (s.sel = false) := HP.out.rest.idle.sel
      have HL1 : Hid ((s.say (wordL [6])).sel = false) := H1.1.rest.idle.sel
      have HL2 : Hid (((s.say (wordL [6])).say (wordL (2 :: 0 :: k / 256 :: k % 256 :: [y]))).sel = false) := H2.idle.sel
      clear H1 H2 H3 HP
      have Hlit : Hid (#[.int .i64 2, .int .i64 0, .int .i64 ((k / 256 : Nat) : Int), .int .i64 ((k % 256 : Nat) : Int), .int .i64 (y : Int)].toList = (nums [2, 0, k / 256, k % 256, y]).map (Value.int .i64)) := by simp [Hid, nums]
      have Hxv : Hid (y = if j = 1 ∧ a3 = true then xb else xa) := by rw [Hid, ← Hy.out, Hx.out]
      have hfin : ∀ v : Int, v = (y : Int) → Hid (v = (y : Int)) := fun v h => h
      clear hfin Hlit
      rcases (by omega : j = 0 ∨ j = 1) with rfl | rfl
      · have hya : (xa : Int) = (y : Int) := by rw [Hxv.out, if_neg (by omega)]
        rw [hya] at eA
        clear hya
        go_wp2_with fail
        refine (word_lit _ _ [6] 1 rfl rfl (by decide) (by decide)).mono ?_
        rintro e w3 ⟨a3', c3, rfl, HO3, b3⟩
        go_wp2_with fail
        refine (say_run _ 0 0 b _ _ _ _ 8 _ (rn_below HR b3) HL0.out HO3 (rn_lt HR) (wordL_lt _) (by decide) (by decide) rfl).mono ?_
        rintro e w4 ⟨a4, c4, rfl, HO4, HR4, o4⟩
        clear HO3 HO4
        go_wp2_with fail
        refine (word_lit _ _ [2, 0, k / 256, k % 256, y] 5 (by simp [nums]) rfl (by decide) (by intro x hx; simp at hx; omega)).mono ?_
        rintro e w5 ⟨a5, c5, rfl, HO5, b5⟩
        go_wp2_with fail
        refine (say_run _ 0 0 b _ _ _ _ 40 _ (rn_below HR4 b5) HL1.out HO5 (rn_lt HR4) (wordL_lt _) (by simp [wordL_length]) (by decide) (by rw [wordL_length]; rfl)).mono ?_
        rintro e w6 ⟨a6, c6, rfl, HO6, HR6, o6⟩
        clear HO5 HO6
        go_wp2_with fail
        refine (quiet_nil 10 _ (by decide)).mono ?_
        rintro e w7 ⟨a7, c7, rfl, HO7, b7⟩
        go_wp2_with fail
        refine (say_run _ 0 0 b _ _ _ _ 10 _ (rn_below HR6 b7) HL2.out HO7 (rn_lt HR6) (rep_lt (by decide)) (by decide) (by decide) rfl).mono ?_
        rintro e w8 ⟨a8, c8, rfl, HO8, HR8, o8⟩
        clear HO7 HO8
        go_wp2_with fail
        go_roundw
        case rel => exact ⟨1, _, by omega, by go_num, HR8, HS⟩
        case measure => simp [intOf]
      · cases a3
        · have hya : (xa : Int) = (y : Int) := by rw [Hxv.out, if_neg (fun h => absurd h.2 (by decide))]
          rw [hya] at eA
          clear hya
          go_wp2_with fail
          refine (word_lit _ _ [6] 1 rfl rfl (by decide) (by decide)).mono ?_
          rintro e w3 ⟨a3', c3, rfl, HO3, b3⟩
          go_wp2_with fail
          refine (say_run _ 0 0 b _ _ _ _ 8 _ (rn_below HR b3) HL0.out HO3 (rn_lt HR) (wordL_lt _) (by decide) (by decide) rfl).mono ?_
          rintro e w4 ⟨a4, c4, rfl, HO4, HR4, o4⟩
          clear HO3 HO4
          go_wp2_with fail
          refine (word_lit _ _ [2, 0, k / 256, k % 256, y] 5 (by simp [nums]) rfl (by decide) (by intro x hx; simp at hx; omega)).mono ?_
          rintro e w5 ⟨a5, c5, rfl, HO5, b5⟩
          go_wp2_with fail
          refine (say_run _ 0 0 b _ _ _ _ 40 _ (rn_below HR4 b5) HL1.out HO5 (rn_lt HR4) (wordL_lt _) (by simp [wordL_length]) (by decide) (by rw [wordL_length]; rfl)).mono ?_
          rintro e w6 ⟨a6, c6, rfl, HO6, HR6, o6⟩
          clear HO5 HO6
          go_wp2_with fail
          refine (quiet_nil 10 _ (by decide)).mono ?_
          rintro e w7 ⟨a7, c7, rfl, HO7, b7⟩
          go_wp2_with fail
          refine (say_run _ 0 0 b _ _ _ _ 10 _ (rn_below HR6 b7) HL2.out HO7 (rn_lt HR6) (rep_lt (by decide)) (by decide) (by decide) rfl).mono ?_
          rintro e w8 ⟨a8, c8, rfl, HO8, HR8, o8⟩
          clear HO7 HO8
          go_wp2_with fail
          go_roundw
          case rel => exact ⟨2, _, by omega, by go_num, HR8, HS⟩
          case measure => simp [intOf]
        · have hya : (xb : Int) = (y : Int) := by rw [Hxv.out, if_pos ⟨rfl, rfl⟩]
          rw [hya] at eB
          clear hya
          go_wp2_with fail
          refine (word_lit _ _ [6] 1 rfl rfl (by decide) (by decide)).mono ?_
          rintro e w3 ⟨a3', c3, rfl, HO3, b3⟩
          go_wp2_with fail
          refine (say_run _ 0 0 b _ _ _ _ 8 _ (rn_below HR b3) HL0.out HO3 (rn_lt HR) (wordL_lt _) (by decide) (by decide) rfl).mono ?_
          rintro e w4 ⟨a4, c4, rfl, HO4, HR4, o4⟩
          clear HO3 HO4
          go_wp2_with fail
          refine (word_lit _ _ [2, 0, k / 256, k % 256, y] 5 (by simp [nums]) rfl (by decide) (by intro x hx; simp at hx; omega)).mono ?_
          rintro e w5 ⟨a5, c5, rfl, HO5, b5⟩
          go_wp2_with fail
          refine (say_run _ 0 0 b _ _ _ _ 40 _ (rn_below HR4 b5) HL1.out HO5 (rn_lt HR4) (wordL_lt _) (by simp [wordL_length]) (by decide) (by rw [wordL_length]; rfl)).mono ?_
          rintro e w6 ⟨a6, c6, rfl, HO6, HR6, o6⟩
          clear HO5 HO6
          go_wp2_with fail
          refine (quiet_nil 10 _ (by decide)).mono ?_
          rintro e w7 ⟨a7, c7, rfl, HO7, b7⟩
          go_wp2_with fail
          refine (say_run _ 0 0 b _ _ _ _ 10 _ (rn_below HR6 b7) HL2.out HO7 (rn_lt HR6) (rep_lt (by decide)) (by decide) (by decide) rfl).mono ?_
          rintro e w8 ⟨a8, c8, rfl, HO8, HR8, o8⟩
          clear HO7 HO8
          go_wp2_with fail
          go_roundw
          case rel => exact ⟨2, _, by omega, by go_num, HR8, HS⟩
          case measure => simp [intOf]
    · obtain rfl : j = 2 := by omega
      obtain ⟨T, HT⟩ : ∃ T, Hid (twiceA A k x 2 = T) := ⟨_, rfl⟩
      have hTs : T.size = 4096 := by rw [← HT.out, twiceA_size, hA]
      have hsA : Hid (s.A = T) := HP.out.A.trans HT.out
      have hget := get_ub T
      have hmod : ((k : Int) + 1).tmod 4096 = (((k + 1) % 4096 : Nat) : Int) := rfl
      obtain ⟨q, Hq⟩ : ∃ q, Hid ((k + 1) % 4096 = q) := ⟨_, rfl⟩
      rw [Hq.out] at hmod
      have hq : q < 4096 := by have := Hq.out; omega
      have hu2 : ((ub T q).toNat : Int) = 255 := by
        rw [← HT.out, twiceA_two _ _ _ _ (by rw [hA]; exact hq), if_neg (by have := Hq.out; omega), HAu.out q hq]; rfl
      have hwant : ∀ v : Nat, UInt8.ofNat (x 0) &&& UInt8.ofNat (x 1) = UInt8.ofNat v → v < 256 → ((ub T k).toNat : Int) = (v : Int) := fun v hv hv2 => by
        rw [← HT.out, twiceA_two _ _ _ _ (by rw [hA]; exact hk), if_pos rfl, HAu.out k hk, ff_and, hv, UInt8.toNat_ofNat', Nat.mod_eq_of_lt hv2]
      have x0 : x 0 = xa := by rw [Hx.out]; rfl
      cases a3
      · have hu1 : ((ub T k).toNat : Int) = (xa : Int) := hwant xa (by
          have x1 : x 1 = xa := by rw [Hx.out]; rfl
          rw [x0, x1]
          apply UInt8.toNat_inj.1
          rw [byte_and _ _ hxa hxa, Nat.and_self, UInt8.toNat_ofNat', Nat.mod_eq_of_lt hxa]) hxa
        clear hwant x0
        go_wp2_with fail
        refine (cells_run 0 b _ _ _ T HR hsA.out).mono ?_
        rintro e w' ⟨rfl, rfl⟩
        go_wp2
        go_ret
        exact ⟨rfl, HB2.out.trans (rn_old HR hwb HB2.out.size)⟩
      · have hlt2 : xa &&& xb < 256 := Nat.lt_of_le_of_lt Nat.and_le_left hxa
        have hu1 : ((ub T k).toNat : Int) = ((xa &&& xb : Nat) : Int) := hwant (xa &&& xb) (by
          have x1 : x 1 = xb := by rw [Hx.out]; rfl
          rw [x0, x1]
          apply UInt8.toNat_inj.1
          rw [byte_and _ _ hxa hxb, UInt8.toNat_ofNat', Nat.mod_eq_of_lt hlt2]) hlt2
        have hand : bits .and .i64 (xa : Int) a2 = ((xa &&& xb : Nat) : Int) := and_byte xa hxa a2 xb HB0.out
        generalize (xa &&& xb : Nat) = z at hu1 hand hlt2
        clear hwant x0
        go_wp2_with fail
        refine (cells_run 0 b _ _ _ T HR hsA.out).mono ?_
        rintro e w' ⟨rfl, rfl⟩
        go_wp2
        go_ret
        exact ⟨rfl, HB2.out.trans (rn_old HR hwb HB2.out.size)⟩

set_option maxRecDepth 100000 in
theorem lifted (os : Os) (started : os.Started) (H : Type) (enc : TypeId × Value → H) :
    ReturnsInHanded {} Try.checked os 11 .any (Rows.chipTwiceSpec.pre6 enc Try.prog Try.f11 Rows.chipTwiceRow.domain false) (Rows.chipTwiceSpec.post enc Try.prog Try.f11 false true false false) := by
  refine returnsInHanded_of_change (C := Try.checked) own started (by kernel_rfl) Try.func11
    (ChangeSpec.witness6 (enc := enc) (C := Try.checked) false ⟨#[], #[.int .i64 0, .int .i64 0, .int .i64 0, .bool false], []⟩ 8 (by kernel_rfl) (by kernel_rfl) (by kernel_rfl) (by kernel_rfl)) ?_
  intro W base args ds gs before hval0 hW hcnd _
  have hval : ∀ (j : Nat) t v, Try.f11.params[j]? = some t → args[j]? = some v → Value.okWide Try.prog W .any base t v := hval0
  have hW' := hW
  obtain ⟨p, q, hA0, hV, rfl, hfz, hnd⟩ := hW
  have hA : DataW.TrodAll enc Try.prog W 0 (fun _ => true) true Try.f11.params.toList args.toList ds p := hA0
  rw [Try.params11] at hA hval
  obtain ⟨v0, vs0, d0, ds0, p0, q0, hargs, rfl, rfl, h0, r0⟩ := trodAll_cons hA
  obtain ⟨v1, vs1, d1, ds1, p1, q1, rfl, rfl, rfl, h1, r1⟩ := trodAll_cons r0
  obtain ⟨v2, vs2, d2, ds2, p2, q2, rfl, rfl, rfl, h2, r2⟩ := trodAll_cons r1
  obtain ⟨v3, vs3, d3, ds3, p3, q3, rfl, rfl, rfl, h3, r3⟩ := trodAll_cons r2
  obtain ⟨rfl, rfl, rfl⟩ := trodAll_nil r3
  obtain rfl : args = #[v0, v1, v2, v3] := by cases args; simp_all
  obtain ⟨rfl, rfl⟩ := trodVars_none hV
  obtain ⟨a0, rfl, rfl, rfl, w0⟩ := open_int Try.underlying3 (hval 0 3 v0 rfl rfl) h0
  obtain ⟨a1, rfl, rfl, rfl, w1⟩ := open_int Try.underlying3 (hval 1 3 v1 rfl rfl) h1
  obtain ⟨a2, rfl, rfl, rfl, w2⟩ := open_int Try.underlying3 (hval 2 3 v2 rfl rfl) h2
  obtain ⟨a3, rfl, rfl, rfl⟩ := open_bool Try.underlying4 (hval 3 4 v3 rfl rfl) h3
  clear hA0 hval0
  refine (walk a0 a1 a2 a3 W w0 w1 w2).mono fun e W' ⟨he, bel⟩ => ?_
  subst he
  exact ⟨_, rfl, _, _, _, [], _, [], hW', trodAll_mk1 (shut_bool Try.underlying4 _), (trodAll_cons_mk (shut_int Try.underlying3 w0) (trodAll_cons_mk (shut_int Try.underlying3 w1) (trodAll_cons_mk (shut_int Try.underlying3 w2) (trodAll_cons_mk (shut_bool Try.underlying4 _) trodAll_mk0)))), rfl, bel.frame _, fun h => by cases h⟩

theorem over : Rows.chipTwiceRow.holds Try.pinned (OpenSpec.ofChange Rows.chipTwiceSpec) :=
  OpenClaim.holds_of_wide 11 Try.f11 rfl rfl rfl rfl rfl rfl rfl ⟨rfl, rfl, rfl, rfl, rfl⟩ rfl rfl rfl rfl rfl (by kernel_rfl) Try.func11 (by kernel_rfl)
    (of_decide_eq_true (by kernel_rfl)) (by unfold Func.isWrapper; first | (rw [if_pos (by decide +kernel)]; kernel_rfl) | (rw [if_neg (by decide +kernel)]; exact ⟨rfl, rfl⟩))
    (fun os started H enc _ => lifted os started H enc)

theorem proved : Rows.ChipTwiceSaid := over
#print axioms proved
end Go.Proofs.Ythhchfldgkgfpaa.chipTwice
