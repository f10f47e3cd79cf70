/-
  WireRows: a row of phases that reads is a command from its own beginning on, over and over; without a command nothing is told. No conditions.
-/
import Derived.Test.YtlemmabgbaleiaaGreatRows
import Derived.Test.YtlemmabgbaleiaaGreatReadRows
import Derived.WalkKit
import Derived.ProofKit
import Derived.OpenShut
import Derived.ShutString
import Derived.ChangeOld
import Derived.Below
namespace Go.Proofs.YtlemmabgbaleiaaGreat.wireRows
open Go.Proofs.YtlemmabgbaleiaaGreat.Plain
open Go.ChangeShapes Go.WideShapes Go.ChangeAt Go.RowKit
open Go.ChangeMaps (open_string shut_string)
set_option linter.unusedVariables false

theorem own : ownKnob Tryz.prog.godebug = none := by kernel_rfl
theorem laidOut : laidOutB Tryz.prog = true := by kernel_rfl

set_option maxRecDepth 100000 in
set_option maxHeartbeats 2000000 in
theorem walk (a0 : ByteArray) (a1 : Int) (a2 : Int) (w : World) (w0 : a0.size ≤ maxLen) (w1 : (Lit.int .i64 a1).wf = true) (w2 : (Lit.int .i64 a2).wf = true) :
    Calls Tryz.prog 7 #[.string a0, .int .i64 a1, .int .i64 a2] w fun e w' => e = .returned (.bool true) ∧ Below w.heap.size w w' := by
  obtain ⟨K, hK, eK, -⟩ := mask_15 a2
  obtain ⟨k, hk, ek, -⟩ := mask_4095 a1
  obtain ⟨m, hm⟩ : ∃ m, m = 1 + K := ⟨_, rfl⟩
  have hm0 : 0 < m := by omega
  have hm16 : m ≤ 16 := by omega
  obtain ⟨K1, HK1⟩ : ∃ K1, Hid (K1 = k / 256) := ⟨_, rfl⟩
  obtain ⟨K2, HK2⟩ : ∃ K2, Hid (K2 = k % 256) := ⟨_, rfl⟩
  obtain ⟨t, HT⟩ : ∃ t, Hid (t = (k + K) % 4096) := ⟨_, rfl⟩
  have ht : t < 4096 := last_lt k K t HT.out
  have HM : Hid (m = 1 + K) := hm
  have em := one_more' K m hm
  obtain ⟨h256, h255⟩ := halves_of k K1 K2 HK1.out HK2.out
  obtain ⟨A, HA⟩ : ∃ A, Hid (wide a0 = A) := ⟨_, rfl⟩
  have hA : A.size = 4096 := by rw [← HA.out]; exact wide_size a0
  have hget := get_ub A
  have HK16 : Hid (K < 16) := hK
  clear hm
  go_enter Tryz.func7, Tryz.ntmps7
  go_wp2_with fail
  refine (awake_any _).mono ?_
  rintro e u1 ⟨rfl, b1⟩
  go_wp2_with fail
  refine (twins_any a0 _ w0).mono ?_
  rintro e w1 ⟨bp, b, rfl, hbp, hB⟩
  have HB0 : Hid (Below w.heap.size w w1) := below_then b1 (both_old hB)
  have HR1 : Hid (Run 0 bp w1 w1 (newSt (wide a0))) := rn_start (both_mineLies hB)
  have hwb : w.heap.size ≤ bp := Nat.le_trans b1.size hbp
  rw [HA.out] at HR1
  obtain ⟨s, Hs⟩ : ∃ s, Hid (newSt A = s) := ⟨_, rfl⟩
  have HRest : Hid (s.Rest) := by rw [← Hs.out]; exact rest_new A
  have HsA : Hid (s.A = A) := by rw [← Hs.out]; rfl
  rw [Hs.out] at HR1
  have hbl : bp < w1.heap.size := rn_lt HR1
  clear hB Hs hbp b1
  go_wp2_with fail
  refine (cells_run 0 bp w1 w1 s A HR1 HsA.out).mono ?_
  rintro e w2 ⟨rfl, rfl⟩
  have hp1 := lit_two (Q := fun g => g ≠ bp) w1 #[.int .i64 3, .int .i64 0, .int .i64 (K1 : Int), .int .i64 (K2 : Int)] (numI [3, 0, K1, K2]) 4 (m : Int) rfl rfl (fun g hg => by omega)
  have hb2 := below_then (below_new w1 (.cells #[.int .i64 3, .int .i64 0, .int .i64 (K1 : Int), .int .i64 (K2 : Int)] 3)) (below_new (w1.alloc (.cells #[.int .i64 3, .int .i64 0, .int .i64 (K1 : Int), .int .i64 (K2 : Int)] 3)) (.cells #[.int .i64 1, .slice (some ⟨w1.heap.size, 0, none⟩) 4 4, .int .i64 0, .int .i64 0, .int .i64 1, .slice none 0 0, .int .i64 0, .int .i64 (m : Int)] 50))
  have hRP : [((1 : Int), numI [3, 0, K1, K2], (0 : Int), (0 : Int)), (1, [], 0, (m : Int))] = readP k m := by rw [readP, ← HK1.out, ← HK2.out]
  rw [hRP] at hp1
  have HP : Hid (PIn (fun g => g ≠ bp) _ _ (readP k m)) := hp1
  have HR2 : Hid (Run 0 bp _ _ s) := rn_again (rn_below HR1 hb2)
  have HB2 : Hid (Below w.heap.size w _) := below_then HB0.out hb2
  clear hp1 hb2 HR1 HB0
  clear hRP
  obtain ⟨f1, f2, f3, f4, f5, f6⟩ := read_facts HRest.out A HsA.out k m hk hm0 (by omega)
  have F1 : Hid (drvS s (readP k m) (-1) = s) := f1
  have F2 : Hid (drvL s (readP k m) (-1) = numI ((List.range m).map fun i => (ub A ((k + i) % A.size)).toNat)) := f2
  have F3 : Hid (endN (readP k m) (-1) = 32 + 8 * m) := f3
  have F4 : Hid (whB (readP k m) (-1) = true) := f4
  have F5 : Hid (okR (readP k m) = true) := f5
  have F6 : Hid (PFit (readP k m)) := f6
  clear f1 f2 f3 f4 f5 f6
  go_upto_region 11 with fail
  clear h255 h256 em ek eK
  go_wp2_with fail
  go_loopw [13] (fun i wr => ∃ j n : Nat, j ≤ 3 ∧ i = .int .i64 j ∧ n ≤ j * 1000 ∧ Hid (Run n bp wr wr s) ∧ Hid (PIn (fun g => g ≠ bp) wr (.slice (some ⟨w1.heap.size + 1, 0, none⟩) 2 2) (readP k m)) ∧ Hid (Below w.heap.size w wr)) (fun i _ => 3 - (intOf i).toNat)
  case atStart => exact ⟨0, 0, by omega, rfl, by omega, HR2, HP, HB2⟩
  case round =>
    obtain ⟨j, n, hj, rfl, hn, HR, HPr, HBr⟩ := hrel
    clear HR2 HP HB2
    by_cases hlt : j < 3
    · have hs0 : s.sel = false := HRest.out.idle.sel
      have hbr : bp < wr.heap.size := rn_lt HR
      go_wp2_with fail
      refine (run_drive n bp wr wr s _ (readP k m) (-1) HR hs0 HPr.out F6.out F5.out (by rw [F3.out]; omega) (by omega)).mono ?_
      rintro e w3 ⟨xa, xc, rfl, ho3, hr3⟩
      rw [F1.out, F3.out] at hr3
      have HP3 := pin_only HPr hr3.out.only
      have HB3 := old_only HBr hr3.out.only hwb HBr.out.size
      have HR3 := rn_again hr3
      rw [F2.out] at ho3 ⊢
      rw [F3.out, F4.out]
      have hlen : (numI ((List.range m).map fun i => (ub A ((k + i) % A.size)).toNat)).length = m := by rw [numI_length]; simp
      obtain ⟨xg, rfl, hxg, -, hxc, hrow⟩ := own_some' ho3 (by rw [hlen]; exact hm0)
      have x0 := hrow 0 (by rw [hlen]; exact hm0)
      have xK := hrow K (by rw [hlen, HM.out]; omega)
      rw [numI_get] at x0 xK
      rw [show ((List.range m).map fun i => (ub A ((k + i) % A.size)).toNat).getD 0 0 = (ub A k).toNat from by rw [getD_range _ _ _ hm0, hA, Nat.add_zero, Nat.mod_eq_of_lt hk]] at x0
      rw [show ((List.range m).map fun i => (ub A ((k + i) % A.size)).toNat).getD K 0 = (ub A t).toNat from by rw [getD_range _ _ _ (by rw [HM.out]; omega), hA, ← HT.out]] at xK
      rw [hlen]
      have HE : Hid (n + (32 + 8 * m) ≤ (j + 1) * 1000) := by rw [Hid]; omega
      clear hrow ho3 hlen hr3 HR HPr HBr hxg hxc
      have hKm : (K : Int) < (m : Int) := by have := HM.out; omega
      have i5 : (0 : Int) ≤ (K : Int) := by omega
      have i6 : (0 : Int) < (m : Int) := by omega
      have hj3 : (j : Int) < 3 := by omega
      have hm1000 : m ≤ 1000 := by omega
      have hkA : k < A.size := by omega
      have htA : t < A.size := by omega
      have HJ : Hid (j < 3) := hlt
      obtain ⟨M8, U, S, S1, q1, q2, q3, q4, HU, q5, q6, q7, q8, q9, q10, q11⟩ := rows_letters k m K t HM.out hm1000 hk HT.out
      obtain ⟨X0, HX0, -, ⟨i1, j1⟩, i2⟩ := byte_at A k hkA
      obtain ⟨XK, HXK, -, ⟨i3, j3⟩, i4⟩ := byte_at A t htA
      rw [HX0.out] at x0
      rw [HXK.out] at xK
      rw [HU.out]
      clear hm0 hm16 hk ht hn hj hK hget hA hlt hbl hbr hwb hs0 w0 hm1000 hkA htA F1 F2 F3 F4 F5 F6 HRest HsA HA HT HM HK1 HK2 HK16 HX0 HXK HU
      go_upto_region 15 with fail
      go_quiet (first | (go_at_call 14; exact Calls.quiet_of_same ((num_any _ _).mono fun _ _ ⟨h1, h2⟩ => ⟨h1, h2.symm⟩)))
      clear x0 xK q1 q2 q3 q4 q5 q6 q7 q8 q9 q10 q11 hKm i1 i2 i3 i4 i5 i6 j1 j3
      go_wp2_with fail
      go_roundw
      case rel => exact ⟨j + 1, _, by have := HJ.out; omega, by go_num, HE.out, rn_again (rn_below HR3 (below_drewN (Below.refl _ _) _)), pin_below HP3 (below_drewN (Below.refl _ _) _), below_drewN HB3.out _⟩
      case measure => have := HJ.out; simp [intOf]; omega
    · have hs0 : s.sel = false := HRest.out.idle.sel
      have HPt : Hid (PIn (fun g => g ≠ bp) wr (.slice (some ⟨w1.heap.size + 1, 4, none⟩) 1 1) [(1, [], 0, (m : Int))]) := PIn.tail (p := (1, numI [3, 0, k / 256, k % 256], 0, 0)) (n := 1) (cap := 2) (o := 0) HPr.out (Nat.le_refl _) rfl _ _ (fun _ => ⟨rfl, rfl⟩)
      obtain ⟨f2, f3, f4, f5, f6⟩ := none_facts HRest.out m hm0 (by omega)
      have G2 : Hid (drvL s [(1, [], 0, (m : Int))] (-1) = numI (List.replicate m 255)) := f2
      have G3 : Hid (endN [(1, [], 0, (m : Int))] (-1) = 8 * m) := f3
      have G4 : Hid (whB [(1, [], 0, (m : Int))] (-1) = true) := f4
      have G5 : Hid (okR [(1, [], 0, (m : Int))] = true) := f5
      have G6 : Hid (PFit [(1, [], 0, (m : Int))]) := f6
      clear f2 f3 f4 f5 f6 HPr F1 F2 F3 F4 F5 F6 hget
      go_wp2_with fail
      refine (run_drive n bp wr wr s _ [(1, [], 0, (m : Int))] (-1) HR hs0 HPt.out G6.out G5.out (by rw [G3.out]; omega) (by omega)).mono ?_
      rintro e w3 ⟨xa, xc, rfl, ho3, hr3⟩
      have HB3 := old_only HBr hr3.out.only hwb HBr.out.size
      rw [G2.out] at ho3 ⊢
      rw [G3.out, G4.out]
      have hlen : (numI (List.replicate m 255)).length = m := by rw [numI_length]; simp
      obtain ⟨xg, rfl, hxg, -, hxc, hrow⟩ := own_some' ho3 (by rw [hlen]; exact hm0)
      have x0 := hrow 0 (by rw [hlen]; exact hm0)
      rw [numI_get, show (List.replicate m 255).getD 0 0 = 255 from by rw [List.getD_eq_getElem?_getD, List.getElem?_replicate, if_pos hm0]; rfl] at x0
      rw [hlen]
      have i6 : (0 : Int) < (m : Int) := by omega
      clear hrow ho3 hlen hr3 HR HBr hxg hxc hm16 hk ht hn hj hK hA hlt hbl hwb hs0 w0
      go_wp2_with (go_at_call 14; refine (num_any _ _).mono ?_; rintro e w4 ⟨rfl, rfl⟩)
      go_ret
      exact ⟨rfl, HB3.out⟩

set_option maxRecDepth 100000 in
theorem lifted (os : Os) (started : os.Started) (H : Type) (enc : TypeId × Value → H) :
    ReturnsInHanded {} Tryz.checked os 7 .any (Rows.wireRowsSpec.pre6 enc Tryz.prog Tryz.f7 Rows.wireRowsRow.domain false) (Rows.wireRowsSpec.post enc Tryz.prog Tryz.f7 false true false false) := by
  refine returnsInHanded_of_change (C := Tryz.checked) own started (by kernel_rfl) Tryz.func7
    (ChangeSpec.witness6 (enc := enc) (C := Tryz.checked) false ⟨#[], #[.string ByteArray.empty, .int .i64 0, .int .i64 0], []⟩ 8 (by kernel_rfl) (by kernel_rfl) (by kernel_rfl) (by kernel_rfl)) ?_
  intro W base args ds gs before hval0 hW hcnd _
  have hval : ∀ (j : Nat) t v, Tryz.f7.params[j]? = some t → args[j]? = some v → Value.okWide Tryz.prog W .any base t v := hval0
  have hW' := hW
  obtain ⟨p, q, hA0, hV, rfl, hfz, hnd⟩ := hW
  have hA : DataW.TrodAll enc Tryz.prog W 0 (fun _ => true) true Tryz.f7.params.toList args.toList ds p := hA0
  rw [Tryz.params7] at hA hval
  obtain ⟨v0, vs0, d0, ds0, p0, q0, hargs, rfl, rfl, h0, r0⟩ := trodAll_cons hA
  obtain ⟨v1, vs1, d1, ds1, p1, q1, rfl, rfl, rfl, h1, r1⟩ := trodAll_cons r0
  obtain ⟨v2, vs2, d2, ds2, p2, q2, rfl, rfl, rfl, h2, r2⟩ := trodAll_cons r1
  obtain ⟨rfl, rfl, rfl⟩ := trodAll_nil r2
  obtain rfl : args = #[v0, v1, v2] := by cases args; simp_all
  obtain ⟨rfl, rfl⟩ := trodVars_none hV
  obtain ⟨a0, rfl, rfl, rfl, w0⟩ := open_string Tryz.underlying9 (hval 0 9 v0 rfl rfl) h0
  obtain ⟨a1, rfl, rfl, rfl, w1⟩ := open_int Tryz.underlying3 (hval 1 3 v1 rfl rfl) h1
  obtain ⟨a2, rfl, rfl, rfl, w2⟩ := open_int Tryz.underlying3 (hval 2 3 v2 rfl rfl) h2
  clear hA0 hval0
  refine (walk a0 a1 a2 W w0 w1 w2).mono fun e W' ⟨he, bel⟩ => ?_
  subst he
  exact ⟨_, rfl, _, _, _, [], _, [], hW', trodAll_mk1 (shut_bool Tryz.underlying4 _), (trodAll_cons_mk (shut_string Tryz.underlying9 w0) (trodAll_cons_mk (shut_int Tryz.underlying3 w1) (trodAll_cons_mk (shut_int Tryz.underlying3 w2) trodAll_mk0))), rfl, bel.frame _, fun h => by cases h⟩

theorem over : Rows.wireRowsRow.holds Tryz.pinned (OpenSpec.ofChange Rows.wireRowsSpec) :=
  OpenClaim.holds_of_wide 7 Tryz.f7 rfl rfl rfl rfl rfl rfl rfl ⟨rfl, rfl, rfl, rfl, rfl⟩ rfl rfl rfl rfl rfl (by kernel_rfl) Tryz.func7 (by kernel_rfl)
    (of_decide_eq_true (by kernel_rfl)) (by unfold Func.isWrapper; first | (rw [if_pos (by decide +kernel)]; kernel_rfl) | (rw [if_neg (by decide +kernel)]; exact ⟨rfl, rfl⟩))
    (fun os started H enc _ => lifted os started H enc)

theorem proved : Rows.WireRowsSaid := over
#print axioms proved
end Go.Proofs.YtlemmabgbaleiaaGreat.wireRows
