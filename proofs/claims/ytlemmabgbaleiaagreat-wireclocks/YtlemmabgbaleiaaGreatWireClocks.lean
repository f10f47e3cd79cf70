/-
  A row that is driven takes as many clocks as are told; with fewer it is cut, behind just so many. No conditions.
-/
import Derived.Test.YtlemmabgbaleiaaGreatRows
import Derived.Test.YtlemmabgbaleiaaGreatOpen
import Derived.WalkKit
import Derived.ProofKit
import Derived.OpenShut
import Derived.ShutString
import Derived.SizedLaws
import Derived.ChangeOld
import Derived.Below
namespace Go.Proofs.YtlemmabgbaleiaaGreat.wireClocks
open Go.Proofs.YtlemmabgbaleiaaGreat.Plain
open Go.ChangeShapes Go.WideShapes Go.ChangeAt Go.RowKit
open Go.ChangeMaps (open_string shut_string)
set_option linter.unusedVariables false

theorem own : ownKnob Tryz.prog.godebug = none := by kernel_rfl
theorem laidOut : laidOutB Tryz.prog = true := by kernel_rfl

theorem end_most (P : List Ph) (M : Nat) : endN P (M : Int) ≤ M := by
  unfold endN whB
  split
  · rename_i h; simp at h; omega
  · simp
theorem end_le (P : List Ph) (M : Nat) (h : nR P ≤ M) : endN P (M : Int) = nR P ∧ whB P (M : Int) = true := by
  have hw : whB P (M : Int) = true := by unfold whB; simp; omega
  exact ⟨by unfold endN; rw [if_pos hw], hw⟩
theorem end_gt (P : List Ph) (M : Nat) (h : M < nR P) : endN P (M : Int) = M ∧ whB P (M : Int) = false := by
  have hw : whB P (M : Int) = false := by unfold whB; simp; omega
  exact ⟨by unfold endN; rw [if_neg (by rw [hw]; decide)]; rfl, hw⟩

set_option maxRecDepth 100000 in
set_option maxHeartbeats 4000000 in
theorem walk (a0 : Option Addr) (len0 cap0 : Nat) (P : List Ph) (a1 : Int) (w : World) (w0 : PIn (fun g => g < w.heap.size) w (.slice a0 len0 cap0) P ∧ PFit P) (w1 : (Lit.int .i64 a1).wf = true) :
    Calls Tryz.prog 4 #[.slice a0 len0 cap0, .int .i64 a1] w fun e w' => e = .returned (.bool true) ∧ Below w.heap.size w w' := by
  obtain ⟨M, hM, eM, -⟩ := mask_nat a1 10 (by omega)
  have eM : bits .and .i64 a1 1023 = (M : Int) := eM
  have hM : M < 1024 := hM
  have HI : Hid (PIn (fun g => g < w.heap.size) w (.slice a0 len0 cap0) P) := w0.1
  have HF : Hid (PFit P) := w0.2
  have hN0 := fun h => HF.out.le h
  obtain ⟨N, HN⟩ : ∃ N, Hid (nR P = N) := ⟨_, rfl⟩
  rw [HN.out] at hN0
  clear w0 w1
  cases hok : okR P
  · have HK : Hid (okR P = false) := hok
    have HC : Hid ((clkN P : Int) = 0 ∧ clkX P = 1000) := by rw [Hid, clkN, clkX, hok]; exact ⟨rfl, rfl⟩
    clear hok hN0
    go_enter Tryz.func4, Tryz.ntmps4
    go_wp2_with fail
    refine (awake_any _).mono ?_
    rintro e u1 ⟨rfl, b1⟩
    go_wp2_with fail
    refine (twins_any _ _ (by unfold maxLen; decide)).mono ?_
    rintro e u2 ⟨bp, b, rfl, hbp, hB⟩
    have HB2 : Hid (Below w.heap.size w u2) := below_then b1 (both_old hB)
    have HR2 : Hid (Run 0 bp u2 u2 (newSt (wide ⟨#[97, 98, 99]⟩))) := rn_start (both_mineLies hB)
    have HP2 : Hid (PIn (fun g => g < w.heap.size) u2 (.slice a0 len0 cap0) P) := HI.out.below HB2.out
    clear b1 hB HI
    go_wp2_with fail
    refine (rowclocks_any _ P _ HP2.out.reads HF.out).mono ?_
    rintro e u3 ⟨rfl, b3⟩
    rw [HC.out.1, HC.out.2]
    have HB3 : Hid (Below w.heap.size w u3) := below_then HB2.out b3
    have HP3 : Hid (PIn (fun g => g < w.heap.size) u3 (.slice a0 len0 cap0) P) := HP2.out.below b3
    have HR3 := rn_below HR2 b3
    clear b3 HB2 HP2 HR2
    go_wp2_with fail
    refine (run_drive_form 0 bp _ u3 _ _ P (M : Int) HR3 HP3.out.reads HF.out HK.out).mono ?_
    rintro e u4 ⟨rfl, b4, -⟩
    have HB4 : Hid (Below w.heap.size w u4) := below_then HB3.out b4
    clear b4 HB3 HP3 HR3
    go_wp2_with (go_at_call 14; refine (num_any _ _).mono ?_; rintro e w4 ⟨rfl, rfl⟩)
    go_ret
    exact ⟨rfl, HB4.out⟩
  · have HK : Hid (okR P = true) := hok
    have hN := hN0 hok
    have HC : Hid ((clkN P : Int) = (N : Int) ∧ clkX P = 0) := by rw [Hid, clkN, clkX, hok, ← HN.out]; exact ⟨rfl, rfl⟩
    clear hok hN0
    go_enter Tryz.func4, Tryz.ntmps4
    go_wp2_with fail
    refine (awake_any _).mono ?_
    rintro e u1 ⟨rfl, b1⟩
    go_wp2_with fail
    refine (twins_any _ _ (by unfold maxLen; decide)).mono ?_
    rintro e u2 ⟨bp, b, rfl, hbp, hB⟩
    have HB2 : Hid (Below w.heap.size w u2) := below_then b1 (both_old hB)
    have hwb : w.heap.size ≤ bp := Nat.le_trans b1.size hbp
    have HR2 : Hid (Run 0 bp u2 u2 (newSt (wide ⟨#[97, 98, 99]⟩))) := rn_start (both_mineLies hB)
    have HP2 : Hid (PIn (fun g => g ≠ bp) u2 (.slice a0 len0 cap0) P) := (HI.out.below HB2.out).mono fun g hg _ => by omega
    clear b1 hB HI hbp
    go_wp2_with fail
    refine (rowclocks_any _ P _ HP2.out.reads HF.out).mono ?_
    rintro e u3 ⟨rfl, b3⟩
    rw [HC.out.1, HC.out.2]
    have HB3 : Hid (Below w.heap.size w u3) := below_then HB2.out b3
    have HP3 := pin_below HP2 b3
    have HR3 := rn_again (rn_below HR2 b3)
    clear b3 HB2 HP2 HR2
    go_wp2_with fail
    refine (run_drive 0 bp u3 u3 _ _ P (M : Int) HR3 rfl HP3.out HF.out HK.out (by have := end_most P M; omega) (by omega)).mono ?_
    rintro e u4 ⟨xa, xc, rfl, -, hr4⟩
    have HB4 := old_only HB3 hr4.out.only hwb HB3.out.size
    clear HB3 HP3 HR3 hr4 hwb
    generalize (drvL (newSt (wide ⟨#[97, 98, 99]⟩)) P (M : Int)).length = xl
    by_cases h1 : N < M
    · have hE := end_le P M (by rw [HN.out]; omega)
      rw [hE.1, hE.2, HN.out]
      clear hE
      go_wp2_with (go_at_call 14; refine (num_any _ _).mono ?_; rintro e w4 ⟨rfl, rfl⟩)
      go_ret
      exact ⟨ret_bool (show ((N : Int) == min (N : Int) (M : Int)) = true by rw [Int.min_eq_left (by omega)]; simp), HB4.out⟩
    · by_cases h2 : N = M
      · have hE := end_le P M (by rw [HN.out]; omega)
        rw [hE.1, hE.2, HN.out]
        clear hE
        subst h2
        go_wp2_with (go_at_call 14; refine (num_any _ _).mono ?_; rintro e w4 ⟨rfl, rfl⟩)
        go_ret
        exact ⟨rfl, HB4.out⟩
      · have h3 : M < N := by omega
        have hE := end_gt P M (by rw [HN.out]; exact h3)
        rw [hE.1, hE.2]
        clear hE
        go_wp2_with (go_at_call 14; refine (num_any _ _).mono ?_; rintro e w4 ⟨rfl, rfl⟩)
        go_ret
        exact ⟨ret_bool (show (!decide (N ≤ M) && (M : Int) == min (N : Int) (M : Int)) = true by rw [decide_eq_false (by omega), Int.min_eq_right (by omega)]; simp), HB4.out⟩

set_option maxRecDepth 100000 in
theorem lifted (os : Os) (started : os.Started) (H : Type) (enc : TypeId × Value → H) :
    ReturnsInHanded {} Tryz.checked os 4 .any (Rows.wireClocksSpec.pre6 enc Tryz.prog Tryz.f4 Rows.wireClocksRow.domain false) (Rows.wireClocksSpec.post enc Tryz.prog Tryz.f4 false true false false) := by
  refine returnsInHanded_of_change_sized (C := Tryz.checked) own started (by kernel_rfl) Tryz.func4
    (ChangeSpec.witness6 (enc := enc) (C := Tryz.checked) false ⟨#[], #[.slice none 0 0, .int .i64 0], []⟩ 8 (by kernel_rfl) (by kernel_rfl) (by kernel_rfl) (by kernel_rfl)) ?_
  intro W base args ds gs before hval0 hW hcnd hsz0 _
  have hsz : (DataW.weightsEach Tryz.prog (Tryz.f4.params.toList ++ Rows.wireClocksSpec.plain.varTypes Tryz.prog) (ds ++ gs)).all (· ≤ reachBytes) = true := hsz0
  clear hsz0
  have hval : ∀ (j : Nat) t v, Tryz.f4.params[j]? = some t → args[j]? = some v → Value.okWide Tryz.prog W .any base t v := hval0
  have hW' := hW
  obtain ⟨p, q, hA0, hV, rfl, hfz, hnd⟩ := hW
  have hA : DataW.TrodAll enc Tryz.prog W 0 (fun _ => true) true Tryz.f4.params.toList args.toList ds p := hA0
  rw [Tryz.params4] at hA hval hsz
  obtain ⟨v0, vs0, d0, ds0, p0, q0, hargs, rfl, rfl, h0, r0⟩ := trodAll_cons hA
  obtain ⟨v1, vs1, d1, ds1, p1, q1, rfl, rfl, rfl, h1, r1⟩ := trodAll_cons r0
  obtain ⟨rfl, rfl, rfl⟩ := trodAll_nil r1
  obtain rfl : args = #[v0, v1] := by cases args; simp_all
  obtain ⟨rfl, rfl⟩ := trodVars_none hV
  obtain ⟨a0, len0, cap0, rfl⟩ := okWide_slice Tryz.underlying28 (hval 0 28 v0 rfl rfl)
  have k0 := h0
  have lt0 : ∀ x ∈ p0, x.block < W.heap.size := by obtain ⟨m, hm⟩ := k0; exact DataW.trod_lt m _ _ _ hm
  obtain ⟨P, -, hP1, hP2⟩ : ∃ ps, ps.length = len0 ∧ PIn (fun g => g < W.heap.size) W (.slice a0 len0 cap0) ps ∧ PFit ps := by
    obtain ⟨fuel, hf⟩ := h0
    exact phs_open hf (fun y hy => of_decide_eq_true (List.all_eq_true.1 hsz y (DataW.weights_mem_each (j := 0) (t := 28) (d := d0) rfl rfl y hy)))
  obtain ⟨a1, rfl, rfl, rfl, w1⟩ := open_int Tryz.underlying3 (hval 1 3 v1 rfl rfl) h1
  clear hA0 hval0
  refine (walk a0 len0 cap0 P a1 W ⟨hP1, hP2⟩ w1).mono fun e W' ⟨he, bel⟩ => ?_
  subst he
  exact ⟨_, rfl, _, _, _, [], _, [], hW', trodAll_mk1 (shut_bool Tryz.underlying4 _), (trodAll_cons_mk (Below.trod laidOut (by kernel_rfl) (of_decide_eq_true (by kernel_rfl)) k0 bel lt0) (trodAll_cons_mk (shut_int Tryz.underlying3 w1) trodAll_mk0)), rfl, bel.frame _, fun h => by cases h⟩

theorem over : Rows.wireClocksRow.holds Tryz.pinned (OpenSpec.ofChange Rows.wireClocksSpec) :=
  OpenClaim.holds_of_wide 4 Tryz.f4 rfl rfl rfl rfl rfl rfl rfl ⟨rfl, rfl, rfl, rfl, rfl⟩ rfl rfl rfl rfl rfl (by kernel_rfl) Tryz.func4 (by kernel_rfl)
    (of_decide_eq_true (by kernel_rfl)) (by unfold Func.isWrapper; first | (rw [if_pos (by decide +kernel)]; kernel_rfl) | (rw [if_neg (by decide +kernel)]; exact ⟨rfl, rfl⟩))
    (fun os started H enc _ => lifted os started H enc)

theorem proved : Rows.WireClocksSaid := over
#print axioms proved
end Go.Proofs.YtlemmabgbaleiaaGreat.wireClocks
