/-
  ChipQuad: reads on four lanes are nothing until quad is set; then they tell the cells. No conditions.
-/
import Derived.Test.YthhchfldgkgfpaaRows
import Derived.Test.YthhchfldgkgfpaaAwake
import Derived.Test.YthhchfldgkgfpaaTold2
import Derived.WalkKit
import Derived.ProofKit
import Derived.OpenShut
import Derived.ShutString
import Derived.ChangeOld
import Derived.Below
namespace Go.Proofs.Ythhchfldgkgfpaa.chipQuad
open Go.Proofs.Ythhchfldgkgfpaa.Plain
open Go.ChangeShapes Go.WideShapes Go.ChangeAt Go.RowKit
open Go.ChangeMaps (open_string shut_string)
set_option linter.unusedVariables false

theorem own : ownKnob Try.prog.godebug = none := by kernel_rfl
theorem laidOut : laidOutB Try.prog = true := by kernel_rfl

set_option maxRecDepth 100000 in
set_option maxHeartbeats 2000000 in
theorem walk (a0 : ByteArray) (a1 : Int) (a2 : Bool) (w : World) (w0 : a0.size ≤ maxLen) (w1 : (Lit.int .i64 a1).wf = true) :
    Calls Try.prog 9 #[.string a0, .int .i64 a1, .bool a2] w fun e w' => e = .returned (.bool true) ∧ Below w.heap.size w w' := by
  obtain ⟨k, hk, ek, -⟩ := mask_4095 a1
  have h255 : bits .and .i64 (k : Int) 255 = ((k % 256 : Nat) : Int) := by rw [and_255]; omega
  obtain ⟨A, HA⟩ : ∃ A, Hid (wide a0 = A) := ⟨_, rfl⟩
  have hA : A.size = 4096 := by rw [← HA.out]; exact wide_size a0
  have hget := get_ub A
  go_enter Try.func9, Try.ntmps9
  go_wp2_with fail
  refine (awake_any _).mono ?_
  rintro e u1 ⟨rfl, b1⟩
  go_wp2_with fail
  refine (fresh_any 0 _ _ w0).mono ?_
  rintro e w2 ⟨b, rfl, hbb, hl, b2⟩
  rw [HA.out] at hl
  have HR2 := rn_start hl
  have hwb : w.heap.size ≤ b := Nat.le_trans b1.size hbb
  have HB2 : Hid (Below w.heap.size w w2) := below_then b1 b2
  clear hl b1 b2 hbb HA
  have hlen : (wordL [107, 0, k / 256, k % 256] ++ List.replicate 8 15).length = 40 := by rw [List.length_append, List.length_replicate, wordL_length]; rfl
  cases a2
  · have HE : Hid ((newSt A).hears ((wordL [107, 0, k / 256, k % 256] ++ List.replicate 8 15) ++ List.replicate 8 15) = List.replicate 48 15) := by
      have h := hears_none (rest_new A) 107 (by decide) (quad_none rfl 107 (by decide)) (wordL [0, k / 256, k % 256] ++ List.replicate 8 15 ++ List.replicate 8 15)
      rw [List.length_append, List.length_append, List.length_replicate, wordL_length] at h
      show _ = _
      rw [wordL_cons, List.append_assoc, List.append_assoc, ← List.append_assoc (wordL _)]
      exact h
    go_wp2_with fail
    refine (cells_run 0 b _ _ _ A HR2 rfl).mono ?_
    rintro e w' ⟨rfl, rfl⟩
    go_wp2_with fail
    refine (word_lit _ _ [107, 0, k / 256, k % 256] 4 (by simp [nums]) rfl (by decide) (by intro x hx; simp at hx; omega)).mono ?_
    rintro e w3 ⟨a3, c3, rfl, HO3, b3⟩
    go_wp2_with fail
    refine (quiet_on _ _ _ 8 40 _ HO3 b3.size (by simp [wordL_length]) (by simp [wordL_length]) (by decide) (by rw [wordL_length]; rfl)).mono ?_
    rintro e w4 ⟨a4, c4, rfl, HO4, b4⟩
    have hb4 : b < w4.heap.size := rn_lt (rn_below (rn_below HR2 b3) b4)
    go_wp2_with fail
    refine (quiet_on _ _ _ 8 48 _ HO4 (Nat.le_trans b3.size b4.size) (by rw [hlen]; decide) (by rw [hlen]; decide) (by decide) (by rw [hlen])).mono ?_
    rintro e w5 ⟨a5, c5, rfl, HO5, b5⟩
    go_wp2_with fail
    refine (say_run _ 0 0 b _ _ _ _ 48 _ (rn_below (rn_below (rn_below HR2 b3) b4) b5) rfl HO5 (rn_lt HR2) (app_lt (app_lt (wordL_lt _) (rep_lt (by decide))) (rep_lt (by decide))) (by rw [List.length_append, hlen]; decide) (by decide) (by rw [List.length_append, hlen]; rfl)).mono ?_
    rintro e w6 ⟨a6, c6, rfl, HO6, HR6, o6⟩
    rw [HE.out] at HO6
    obtain ⟨g6, rfl, hc6⟩ := owns_some HO6 rfl (by decide)
    have HX : Hid (∀ i, i < 48 → w6.cell? ⟨g6, i, none⟩ = some (.int .i64 15)) := fun i hi => by
      rw [owns_cell HO6 i (by rw [List.length_replicate]; exact hi), List.getD_eq_getElem?_getD, List.getElem?_replicate, if_pos hi]; rfl
    have HB6 : Hid (Below w.heap.size w w6) := HB2.out.trans (rn_old HR6 hwb HB2.out.size)
    clear HO3 HO4 HO5 HO6 HB2 HR2 HR6 b3 b4 b5 o6
    go_wp2_with fail
    go_loopw [11] (fun i wr => ∃ j : Nat, j ≤ 48 ∧ i = .int .i64 j ∧ Hid (Below w6.heap.size w6 wr)) (fun i _ => (48 - intOf i).toNat)
    case atStart => exact ⟨0, by omega, rfl, Below.refl _ _⟩
    case round =>
      obtain ⟨j, hj, rfl, HW⟩ := hrel
      by_cases hlt : j < 48
      · have c0 := HX.out j hlt
        have ck : wr.cell? ⟨g6, j, none⟩ = some (.int .i64 15) := by rw [HW.out.cell (cell_lt c0)]; exact c0
        clear c0
        go_wp2
        go_roundw
        case rel => exact ⟨j + 1, by omega, by go_num, by first | exact HW | exact HW.out.drew⟩
        case measure => simp [intOf]; omega
      · go_wp2
        go_ret
        exact ⟨rfl, below_then HB6.out HW.out⟩
  · have H1 := say_en (plain_new A)
    have H2 := quad_set H1.1 H1.2
    obtain ⟨s2, Hs2⟩ : ∃ s2, Hid (((newSt A).say (wordL [6])).say (wordL [1, 0, 2]) = s2) := ⟨_, rfl⟩
    obtain ⟨s1, Hs1⟩ : ∃ s1, Hid ((newSt A).say (wordL [6]) = s1) := ⟨_, rfl⟩
    rw [Hs2.out] at H2
    rw [Hs1.out] at H1
    have Hs2' : Hid (s1.say (wordL [1, 0, 2]) = s2) := by rw [← Hs1.out]; exact Hs2
    have hl1 : s1.sel = false := H1.1.rest.idle.sel
    have hl2 : s2.sel = false := H2.1.rest.idle.sel
    have HA2 : Hid (s2.A = A) := H2.1.A
    have HE : Hid (s2.hears ((wordL [107, 0, k / 256, k % 256] ++ List.replicate 8 15) ++ List.replicate 8 15) = List.replicate 40 15 ++ ((List.range 4).map fun i => (ub A ((k + i) % 4096)).toNat).flatMap halves) := by
      have h := hears_quad H2.1.rest H2.2.1 k hk 4
      rw [H2.1.A, hA] at h
      exact h
    clear H1 H2 Hs2
    go_wp2_with fail
    refine (word_lit _ _ [6] 1 rfl rfl (by decide) (by decide)).mono ?_
    rintro e w3 ⟨a3, c3, rfl, HO3, b3⟩
    go_wp2_with fail
    refine (say_run _ 0 0 b _ _ _ _ 8 _ (rn_below HR2 b3) rfl HO3 (rn_lt HR2) (wordL_lt _) (by decide) (by decide) rfl).mono ?_
    rintro e w4 ⟨a4, c4, rfl, HO4, HR4, o4⟩
    rw [Hs1.out] at HR4
    clear HO3 HO4
    go_wp2_with fail
    refine (word_lit _ _ [1, 0, 2] 3 rfl rfl (by decide) (by decide)).mono ?_
    rintro e w5 ⟨a5, c5, rfl, HO5, b5⟩
    go_wp2_with fail
    refine (say_run _ 0 0 b _ _ _ _ 24 _ (rn_below HR4 b5) hl1 HO5 (rn_lt HR4) (wordL_lt _) (by decide) (by decide) rfl).mono ?_
    rintro e w6 ⟨a6, c6, rfl, HO6, HR6, o6⟩
    rw [Hs2'.out] at HR6
    clear HO5 HO6
    go_wp2_with fail
    refine (cells_run 0 b _ _ _ A HR6 HA2.out).mono ?_
    rintro e w' ⟨rfl, rfl⟩
    go_wp2_with fail
    refine (word_lit _ _ [107, 0, k / 256, k % 256] 4 (by simp [nums]) rfl (by decide) (by intro x hx; simp at hx; omega)).mono ?_
    rintro e w7 ⟨a7, c7, rfl, HO7, b7⟩
    go_wp2_with fail
    refine (quiet_on _ _ _ 8 40 _ HO7 b7.size (by simp [wordL_length]) (by simp [wordL_length]) (by decide) (by rw [wordL_length]; rfl)).mono ?_
    rintro e w8 ⟨a8, c8, rfl, HO8, b8⟩
    go_wp2_with fail
    refine (quiet_on _ _ _ 8 48 _ HO8 (Nat.le_trans b7.size b8.size) (by rw [hlen]; decide) (by rw [hlen]; decide) (by decide) (by rw [hlen])).mono ?_
    rintro e w9 ⟨a9, c9, rfl, HO9, b9⟩
    go_wp2_with fail
    refine (say_run _ 0 0 b _ _ _ _ 48 _ (rn_below (rn_below (rn_below HR6 b7) b8) b9) hl2 HO9 (rn_lt HR6) (app_lt (app_lt (wordL_lt _) (rep_lt (by decide))) (rep_lt (by decide))) (by rw [List.length_append, hlen]; decide) (by decide) (by rw [List.length_append, hlen]; rfl)).mono ?_
    rintro e w10 ⟨a10, c10, rfl, HO10, HR10, o10⟩
    rw [HE.out] at HO10
    have hL48 : (List.replicate 40 15 ++ ((List.range 4).map fun i => (ub A ((k + i) % 4096)).toNat).flatMap halves).length = 48 := by rw [List.length_append, halves_length, List.length_replicate, List.length_map, List.length_range]
    obtain ⟨g6, rfl, hc6⟩ := owns_some HO10 (by rw [nums_length, hL48]) (by decide)
    have HX : Hid (∀ i, i < 40 → w10.cell? ⟨g6, i, none⟩ = some (.int .i64 15)) := fun i hi => by
      rw [owns_cell HO10 i (by rw [hL48]; omega), List.getD_eq_getElem?_getD, List.getElem?_append_left (by rw [List.length_replicate]; exact hi), List.getElem?_replicate, if_pos hi]; rfl
    have HY : Hid (∀ t, t < 4 → w10.cell? ⟨g6, 40 + 2 * t, none⟩ = some (.int .i64 (((ub A ((k + t) % 4096)).toNat / 16 % 16 : Nat) : Int)) ∧ w10.cell? ⟨g6, 40 + 2 * t + 1, none⟩ = some (.int .i64 (((ub A ((k + t) % 4096)).toNat % 16 : Nat) : Int))) := fun t ht => by
      have hg := halves_get 4 (fun i => (ub A ((k + i) % 4096)).toNat) t ht
      rw [owns_cell HO10 _ (by rw [hL48]; omega), owns_cell HO10 _ (by rw [hL48]; omega), List.getD_eq_getElem?_getD, List.getElem?_append_right (by rw [List.length_replicate]; omega), List.length_replicate, show 40 + 2 * t - 40 = 2 * t by omega,
        List.getD_eq_getElem?_getD, List.getElem?_append_right (by rw [List.length_replicate]; omega), List.length_replicate, show 40 + 2 * t + 1 - 40 = 2 * t + 1 by omega, ← List.getD_eq_getElem?_getD, ← List.getD_eq_getElem?_getD, hg.1, hg.2]
      exact ⟨rfl, rfl⟩
    have HB6 : Hid (Below w.heap.size w w10) := HB2.out.trans (rn_old HR10 hwb HB2.out.size)
    clear HO7 HO8 HO9 HO10 HB2 HR2 HR4 HR6 HR10 b3 b5 b7 b8 b9 o4 o6 o10 HE Hs1 Hs2' HA2
    go_wp2_with fail
    go_loopw [11] (fun i wr => ∃ j : Nat, j ≤ 48 ∧ i = .int .i64 j ∧ Hid (Below w10.heap.size w10 wr)) (fun i _ => (48 - intOf i).toNat)
    case atStart => exact ⟨0, by omega, rfl, Below.refl _ _⟩
    case round =>
      obtain ⟨j, hj, rfl, HW⟩ := hrel
      by_cases hlt : j < 48
      · by_cases h40 : j < 40
        · have c0 := HX.out j h40
          have ck : wr.cell? ⟨g6, j, none⟩ = some (.int .i64 15) := by rw [HW.out.cell (cell_lt c0)]; exact c0
          have d40 : decide ((40 : Int) ≤ (j : Int)) = false := decide_eq_false (by omega)
          clear c0
          go_wp2
          go_roundw
          case rel => exact ⟨j + 1, by omega, by go_num, by first | exact HW | exact HW.out.drew⟩
          case measure => simp [intOf]; omega
        · obtain ⟨t, r, ht, hr2, hjt⟩ : ∃ t r, t < 4 ∧ r < 2 ∧ j = 40 + 2 * t + r := ⟨(j - 40) / 2, (j - 40) % 2, by omega, by omega, by omega⟩
          obtain ⟨q, Hq⟩ : ∃ q, Hid ((k + t) % 4096 = q) := ⟨_, rfl⟩
          have hq : q < 4096 := by have := Hq.out; omega
          have hy := HY.out t ht
          rw [Hq.out] at hy
          have hx : (ub A q).toNat < 256 := ub_lt _ _
          have cy0 : wr.cell? ⟨g6, 40 + 2 * t, none⟩ = some (.int .i64 (((ub A q).toNat : Int) / 16)) := by rw [HW.out.cell (cell_lt hy.1), hy.1, show (ub A q).toNat / 16 % 16 = (ub A q).toNat / 16 by omega]; rfl
          have cy1 : wr.cell? ⟨g6, 40 + 2 * t + 1, none⟩ = some (.int .i64 (((ub A q).toNat : Int) % 16)) := by rw [HW.out.cell (cell_lt hy.2), hy.2]; rfl
          have hwr := wrap_ub A q
          have h15 : bits .and .i64 ((ub A q).toNat : Int) 15 = ((ub A q).toNat : Int) % 16 := and_15 _
          have Hm : Hid (((k : Int) + (t : Int)).tmod 4096 = (q : Int)) := by rw [Hid, ← Hq.out]; rfl
          clear hy HY HX hx
          rcases (by omega : t = 0 ∨ t = 1 ∨ t = 2 ∨ t = 3) with rfl | rfl | rfl | rfl
          · rcases (by omega : r = 0 ∨ r = 1) with rfl | rfl
            · obtain rfl : j = 40 := by omega
              have hm : (k : Int).tmod 4096 = (q : Int) := by have := Hm.out; simpa using this
              have ck : wr.cell? ⟨g6, 40, none⟩ = some (.int .i64 (((ub A q).toNat : Int) / 16)) := cy0
              clear Hm cy0 cy1 hjt
              go_wp2
              go_roundw
              case rel => exact ⟨41, by omega, by go_num, by first | exact HW | exact HW.out.drew⟩
              case measure => simp [intOf]
            · obtain rfl : j = 41 := by omega
              have hm : (k : Int).tmod 4096 = (q : Int) := by have := Hm.out; simpa using this
              have ck : wr.cell? ⟨g6, 41, none⟩ = some (.int .i64 (((ub A q).toNat : Int) % 16)) := cy1
              clear Hm cy0 cy1 hjt
              go_wp2
              go_roundw
              case rel => exact ⟨42, by omega, by go_num, by first | exact HW | exact HW.out.drew⟩
              case measure => simp [intOf]
          · rcases (by omega : r = 0 ∨ r = 1) with rfl | rfl
            · obtain rfl : j = 42 := by omega
              have hm : ((k : Int) + 1).tmod 4096 = (q : Int) := Hm.out
              have ck : wr.cell? ⟨g6, 42, none⟩ = some (.int .i64 (((ub A q).toNat : Int) / 16)) := cy0
              clear Hm cy0 cy1 hjt
              go_wp2
              go_roundw
              case rel => exact ⟨43, by omega, by go_num, by first | exact HW | exact HW.out.drew⟩
              case measure => simp [intOf]
            · obtain rfl : j = 43 := by omega
              have hm : ((k : Int) + 1).tmod 4096 = (q : Int) := Hm.out
              have ck : wr.cell? ⟨g6, 43, none⟩ = some (.int .i64 (((ub A q).toNat : Int) % 16)) := cy1
              clear Hm cy0 cy1 hjt
              go_wp2
              go_roundw
              case rel => exact ⟨44, by omega, by go_num, by first | exact HW | exact HW.out.drew⟩
              case measure => simp [intOf]
          · rcases (by omega : r = 0 ∨ r = 1) with rfl | rfl
            · obtain rfl : j = 44 := by omega
              have hm : ((k : Int) + 2).tmod 4096 = (q : Int) := Hm.out
              have ck : wr.cell? ⟨g6, 44, none⟩ = some (.int .i64 (((ub A q).toNat : Int) / 16)) := cy0
              clear Hm cy0 cy1 hjt
              go_wp2
              go_roundw
              case rel => exact ⟨45, by omega, by go_num, by first | exact HW | exact HW.out.drew⟩
              case measure => simp [intOf]
            · obtain rfl : j = 45 := by omega
              have hm : ((k : Int) + 2).tmod 4096 = (q : Int) := Hm.out
              have ck : wr.cell? ⟨g6, 45, none⟩ = some (.int .i64 (((ub A q).toNat : Int) % 16)) := cy1
              clear Hm cy0 cy1 hjt
              go_wp2
              go_roundw
              case rel => exact ⟨46, by omega, by go_num, by first | exact HW | exact HW.out.drew⟩
              case measure => simp [intOf]
          · rcases (by omega : r = 0 ∨ r = 1) with rfl | rfl
            · obtain rfl : j = 46 := by omega
              have hm : ((k : Int) + 3).tmod 4096 = (q : Int) := Hm.out
              have ck : wr.cell? ⟨g6, 46, none⟩ = some (.int .i64 (((ub A q).toNat : Int) / 16)) := cy0
              clear Hm cy0 cy1 hjt
              go_wp2
              go_roundw
              case rel => exact ⟨47, by omega, by go_num, by first | exact HW | exact HW.out.drew⟩
              case measure => simp [intOf]
            · obtain rfl : j = 47 := by omega
              have hm : ((k : Int) + 3).tmod 4096 = (q : Int) := Hm.out
              have ck : wr.cell? ⟨g6, 47, none⟩ = some (.int .i64 (((ub A q).toNat : Int) % 16)) := cy1
              clear Hm cy0 cy1 hjt
              go_wp2
              go_roundw
              case rel => exact ⟨48, by omega, by go_num, by first | exact HW | exact HW.out.drew⟩
              case measure => simp [intOf]
      · go_wp2
        go_ret
        exact ⟨rfl, below_then HB6.out HW.out⟩

set_option maxRecDepth 100000 in
theorem lifted (os : Os) (started : os.Started) (H : Type) (enc : TypeId × Value → H) :
    ReturnsInHanded {} Try.checked os 9 .any (Rows.chipQuadSpec.pre6 enc Try.prog Try.f9 Rows.chipQuadRow.domain false) (Rows.chipQuadSpec.post enc Try.prog Try.f9 false true false false) := by
  refine returnsInHanded_of_change (C := Try.checked) own started (by kernel_rfl) Try.func9
    (ChangeSpec.witness6 (enc := enc) (C := Try.checked) false ⟨#[], #[.string ByteArray.empty, .int .i64 0, .bool false], []⟩ 8 (by kernel_rfl) (by kernel_rfl) (by kernel_rfl) (by kernel_rfl)) ?_
  intro W base args ds gs before hval0 hW hcnd _
  have hval : ∀ (j : Nat) t v, Try.f9.params[j]? = some t → args[j]? = some v → Value.okWide Try.prog W .any base t v := hval0
  have hW' := hW
  obtain ⟨p, q, hA0, hV, rfl, hfz, hnd⟩ := hW
  have hA : DataW.TrodAll enc Try.prog W 0 (fun _ => true) true Try.f9.params.toList args.toList ds p := hA0
  rw [Try.params9] at hA hval
  obtain ⟨v0, vs0, d0, ds0, p0, q0, hargs, rfl, rfl, h0, r0⟩ := trodAll_cons hA
  obtain ⟨v1, vs1, d1, ds1, p1, q1, rfl, rfl, rfl, h1, r1⟩ := trodAll_cons r0
  obtain ⟨v2, vs2, d2, ds2, p2, q2, rfl, rfl, rfl, h2, r2⟩ := trodAll_cons r1
  obtain ⟨rfl, rfl, rfl⟩ := trodAll_nil r2
  obtain rfl : args = #[v0, v1, v2] := by cases args; simp_all
  obtain ⟨rfl, rfl⟩ := trodVars_none hV
  obtain ⟨a0, rfl, rfl, rfl, w0⟩ := open_string Try.underlying9 (hval 0 9 v0 rfl rfl) h0
  obtain ⟨a1, rfl, rfl, rfl, w1⟩ := open_int Try.underlying3 (hval 1 3 v1 rfl rfl) h1
  obtain ⟨a2, rfl, rfl, rfl⟩ := open_bool Try.underlying4 (hval 2 4 v2 rfl rfl) h2
  clear hA0 hval0
  refine (walk a0 a1 a2 W w0 w1).mono fun e W' ⟨he, bel⟩ => ?_
  subst he
  exact ⟨_, rfl, _, _, _, [], _, [], hW', trodAll_mk1 (shut_bool Try.underlying4 _), (trodAll_cons_mk (shut_string Try.underlying9 w0) (trodAll_cons_mk (shut_int Try.underlying3 w1) (trodAll_cons_mk (shut_bool Try.underlying4 _) trodAll_mk0))), rfl, bel.frame _, fun h => by cases h⟩

theorem over : Rows.chipQuadRow.holds Try.pinned (OpenSpec.ofChange Rows.chipQuadSpec) :=
  OpenClaim.holds_of_wide 9 Try.f9 rfl rfl rfl rfl rfl rfl rfl ⟨rfl, rfl, rfl, rfl, rfl⟩ rfl rfl rfl rfl rfl (by kernel_rfl) Try.func9 (by kernel_rfl)
    (of_decide_eq_true (by kernel_rfl)) (by unfold Func.isWrapper; first | (rw [if_pos (by decide +kernel)]; kernel_rfl) | (rw [if_neg (by decide +kernel)]; exact ⟨rfl, rfl⟩))
    (fun os started H enc _ => lifted os started H enc)

theorem proved : Rows.ChipQuadSaid := over
#print axioms proved
end Go.Proofs.Ythhchfldgkgfpaa.chipQuad
