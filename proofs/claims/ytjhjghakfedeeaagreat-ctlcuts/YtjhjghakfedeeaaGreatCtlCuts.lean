/-
  CtlCuts: with a bound just so many clocks are driven, then nothing any more; what fits is whole. Condition: the row is no longer than memory bears.
-/
import Derived.Test.YtjhjghakfedeeaaGreatRows
import Derived.Test.YtjhjghakfedeeaaGreatCtlLaws
import Derived.SizedLaws
import Derived.WalkKit
import Derived.ProofKit
import Derived.OpenShut
import Derived.ShutString
import Derived.ChangeOld
import Derived.Below
namespace Go.Proofs.YtjhjghakfedeeaaGreat.ctlCuts
open Go.Proofs.YtjhjghakfedeeaaGreat.Plain
open Go.ChangeShapes Go.WideShapes Go.ChangeAt Go.RowKit
open Go.ChangeMaps (open_string shut_string)
set_option linter.unusedVariables false

theorem own : ownKnob Tryz.prog.godebug = none := by kernel_rfl
theorem laidOut : laidOutB Tryz.prog = true := by kernel_rfl

set_option maxRecDepth 100000 in
set_option maxHeartbeats 8000000 in
theorem walk (a0 : Int) (a1 : Option Addr) (len1 cap1 : Nat) (z1 : List Int) (w : World) (w0 : (Lit.int .i64 a0).wf = true) (w1 : Came w a1 len1 cap1 z1) (s1 : len1 * 8 ≤ 140737488351232) :
    Calls Tryz.prog 10 #[.int .i64 a0, .slice a1 len1 cap1] w fun e w' => e = .returned (.bool true) ∧ Below w.heap.size w w' := by
  have HCm : Hid (Reads w (.slice a1 len1 cap1) z1) := w1.reads
  have HZl : Hid (z1.length = len1) := w1.1
  clear w1
  obtain ⟨T, hT, eT, -⟩ : ∃ T : Nat, T < 1024 ∧ bits .and .i64 a0 1023 = (T : Int) ∧ (T : Int) = a0 % 1024 := mask_nat a0 10 (by decide)
  go_enter Tryz.func10, Tryz.ntmps10
  go_wp2_with fail
  refine (cawake_any _).mono ?_
  rintro e u1 ⟨rfl, b1⟩
  go_wp2_with fail
  refine (ctwins_mine _ u1 (by unfold maxLen; decide)).mono ?_
  rintro e w1 ⟨bp, b, rfl, hbp, HL, hbw⟩
  have HB0 : Hid (Below w.heap.size w w1) := below_then b1 hbw
  have hwb : w.heap.size ≤ bp := Nat.le_trans b1.size hbp
  clear hbw hbp b1
  go_wp2_with fail
  refine (kr_new HL.out rfl HB0.out hwb (Nat.le_refl _)).mono ?_
  rintro e w2 ⟨kb, rfl, H2⟩
  clear HL HB0 hwb
  obtain ⟨s, Hs⟩ : ∃ s, Hid (newSt (wide ⟨#[97]⟩) = s) := ⟨_, rfl⟩
  have HR : Hid (s.Rest) := by rw [← Hs.out]; exact rest_new _
  rw [Hs.out] at H2
  clear Hs
  go_wp2_with (go_at_call 19; refine (num_any _ _).mono ?_; rintro e w3 ⟨rfl, rfl⟩)
  have X3 : Hid ((newK s).bind (T : Int) = (kbd s (T - T) T, 0)) := by
    unfold Hid K.bind
    rw [if_neg (by omega), Nat.sub_self]; rfl
  refine (kr_cut H2 X3 (by omega)).mono ?_
  rintro e w3 ⟨rfl, H3, -⟩
  clear H2 X3
  go_wp2_with fail
  go_loopw [9, 10] (fun l i wr => ∃ j L : Nat, j ≤ 30 ∧ j ≤ len1 ∧ l = .int .i64 L ∧ i = .int .i64 j ∧ L ≤ T ∧ Hid (KR w.heap.size (30000 * j) kb bp w wr (kbd s (T - L) L))) (fun _ i _ => 30 - (intOf i).toNat)
  case atStart => exact ⟨0, T, by omega, Nat.zero_le _, rfl, rfl, Nat.le_refl _, H3.out⟩
  case round =>
    obtain ⟨j, L, hj, hjl, rfl, rfl, hL, HK⟩ := hrel
    clear H3
    by_cases hl : j < len1 ∧ j < 30
    · obtain ⟨hl1, hl2⟩ := hl
      obtain ⟨g, o, ha, hc⟩ := reads_at (HCm.out.below HK.out.below) HZl.out j hl1
      subst ha
      obtain ⟨z, Hz⟩ : ∃ z, Hid (z1.getD j 0 = z) := ⟨_, rfl⟩
      rw [Hz.out] at hc
      obtain ⟨M, hM, eM, -⟩ := mask_15 z
      obtain ⟨M8, ND, q1, q2, q3, q4, hcase⟩ := cuts_round HR.out T L M (by omega) hL hM
      clear Hz
      rcases hcase with ⟨hlt, k', X1, hk1, hk2⟩ | ⟨hge, V, L2, C2, hV, X1, HC2, hL2, p1, p2, p3, p4⟩
      · as_aux_lemma =>
        have hlt' : (L : Int) < (ND : Int) := by omega
        go_wp2_with fail
        refine (kr_run_nil HK X1 (by omega)).mono ?_
        rintro e w5 ⟨ua, uc, rfl, -, H5, -⟩
        clear HK X1 q1 q2 q3 q4 eM
        go_wp2_with fail
        refine (kr_run_nil H5 (show Hid (k'.runs 159 0 [] 1 = (k', [], 1101)) from runs_lost hk1 _ _ _ _) (by omega)).mono ?_
        rintro e w6 ⟨va, vc, rfl, -, H6, -⟩
        clear H5
        go_wp2_with (first | (go_at_call 19; refine (num_any _ _).mono ?_; rintro e w7 ⟨rfl, rfl⟩) | (go_at_call 48; refine (kr_lost H6 hk1).mono ?_; rintro e w7 ⟨rfl, rfl⟩) | (go_at_call 47; refine (kr_clocks H6 hk2).mono ?_; rintro e w7 ⟨rfl, rfl⟩))
        go_ret
        exact ⟨rfl, H6.out.below⟩
      · have hge' : ¬ ((L : Int) < (ND : Int)) := by omega
        go_wp2_with fail
        refine (kr_run_nil HK X1 (by omega)).mono ?_
        rintro e w5 ⟨ua, uc, rfl, -, H5, -⟩
        rw [hV]
        clear HK X1 hV q1 q2 q3 q4 eM
        have HBo : Hid (j < len1 ∧ j < 30 ∧ L2 ≤ T) := ⟨hl1, hl2, hL2⟩
        have r1 : wrap64 ((L : Int) - (ND : Int)) = (L2 : Int) := by rw [p1.out, p2.out]
        clear hL hT hj hjl hl1 hl2 hM hL2 hge
        go_wp2_with fail
        refine (num_any _ _).mono ?_
        rintro e w7 ⟨rfl, rfl⟩
        clear hge'
        have r3 : wrap64 ((T : Int) - (L2 : Int)) = (C2 : Int) := by rw [p3.out, p4.out]
        go_wp2_with (first | (go_at_call 19; refine (num_any _ _).mono ?_; rintro e w7 ⟨rfl, rfl⟩) | (go_at_call 47; refine (kr_clocks (c := C2) H5 rfl).mono ?_; rintro e w7 ⟨rfl, rfl⟩))
        rw [HC2.out] at H5
        obtain ⟨b1, b2, b3⟩ := HBo.out
        go_roundw
        case rel => exact ⟨j + 1, L2, by omega, by omega, by first | rfl | rw [r1], by go_num, b3, kr_more H5 (by omega)⟩
        case measure => simp [intOf]; omega
    · have hl' : ¬ (j < len1) ∨ ¬ (j < 30) := by omega
      rcases Nat.lt_or_ge j len1 with h1 | h1
      · have h2 : ¬ (j < 30) := by omega
        go_wp2_with (go_at_call 48; refine (kr_lost (l := false) HK rfl).mono ?_; rintro e w7 ⟨rfl, rfl⟩)
        go_ret
        exact ⟨rfl, HK.out.below⟩
      · have h2 : ¬ (j < len1) := by omega
        go_wp2_with (go_at_call 48; refine (kr_lost (l := false) HK rfl).mono ?_; rintro e w7 ⟨rfl, rfl⟩)
        go_ret
        exact ⟨rfl, HK.out.below⟩

set_option maxRecDepth 100000 in
theorem lifted (os : Os) (started : os.Started) (H : Type) (enc : TypeId × Value → H) :
    ReturnsInHanded {} Tryz.checked os 10 .any (Rows.ctlCutsSpec.pre6 enc Tryz.prog Tryz.f10 Rows.ctlCutsRow.domain false) (Rows.ctlCutsSpec.post enc Tryz.prog Tryz.f10 false true false false) := by
  refine returnsInHanded_of_change_sized (C := Tryz.checked) own started (by kernel_rfl) Tryz.func10
    (ChangeSpec.witness6 (enc := enc) (C := Tryz.checked) false ⟨#[], #[.int .i64 0, .slice none 0 0], []⟩ 8 (by kernel_rfl) (by kernel_rfl) (by kernel_rfl) (by kernel_rfl)) ?_
  intro W base args ds gs before hval0 hW hcnd hsz0 _
  have hsz : (DataW.weightsEach Tryz.prog (Tryz.f10.params.toList ++ Rows.ctlCutsSpec.plain.varTypes Tryz.prog) (ds ++ gs)).all (· ≤ reachBytes) = true := hsz0
  clear hsz0
  have hval : ∀ (j : Nat) t v, Tryz.f10.params[j]? = some t → args[j]? = some v → Value.okWide Tryz.prog W .any base t v := hval0
  have hW' := hW
  obtain ⟨p, q, hA0, hV, rfl, hfz, hnd⟩ := hW
  have hA : DataW.TrodAll enc Tryz.prog W 0 (fun _ => true) true Tryz.f10.params.toList args.toList ds p := hA0
  rw [Tryz.params10] at hA hval hsz
  obtain ⟨v0, vs0, d0, ds0, p0, q0, hargs, rfl, rfl, h0, r0⟩ := trodAll_cons hA
  obtain ⟨v1, vs1, d1, ds1, p1, q1, rfl, rfl, rfl, h1, r1⟩ := trodAll_cons r0
  obtain ⟨rfl, rfl, rfl⟩ := trodAll_nil r1
  obtain rfl : args = #[v0, v1] := by cases args; simp_all
  obtain ⟨rfl, rfl⟩ := trodVars_none hV
  obtain ⟨a0, rfl, rfl, rfl, w0⟩ := open_int Tryz.underlying3 (hval 0 3 v0 rfl rfl) h0
  obtain ⟨a1, len1, cap1, rfl⟩ := okWide_slice Tryz.underlying23 (hval 1 23 v1 rfl rfl)
  have k1 := h1
  have lt1 : ∀ x ∈ p1, x.block < W.heap.size := by obtain ⟨m, hm⟩ := k1; exact DataW.trod_lt m _ _ _ hm
  obtain ⟨z1, w1, s1⟩ : ∃ zs, Came W a1 len1 cap1 zs ∧ len1 * 8 ≤ 140737488351232 := by
    obtain ⟨fuel, hf⟩ := h1
    rcases open_ints Tryz.underlying23 Tryz.underlying3 (by kernel_rfl) hf with ⟨hcs, _⟩ | ⟨x, l, c, zs, hcs, _, hl, hm, hz, hx, hcell, hwz⟩
    · simp [Value.cells] at hcs
      obtain ⟨rfl, rfl, rfl⟩ := hcs
      exact ⟨[], ⟨rfl, .inl ⟨rfl, rfl, rfl⟩⟩, by omega⟩
    · simp [Value.cells] at hcs
      obtain ⟨rfl, rfl, rfl⟩ := hcs
      simp only [Prod.mk.injEq] at hx
      obtain ⟨rfl, -⟩ := hx
      have hzl : zs.length = cap1 := by simpa using hz
      have hreach := sized_slice hsz (j := 1) (t := 23) (e := 3) rfl rfl Tryz.underlying23
      rw [show Tryz.prog.bytesOf 3 = 8 from by kernel_rfl] at hreach
      simp only [lits, List.length_map, List.length_take, List.length_drop, reachBytes] at hreach
      exact ⟨zs.take len1, came_of hl hzl hcell, by omega⟩
  clear hA0 hval0
  refine (walk a0 a1 len1 cap1 z1 W w0 w1 s1).mono fun e W' ⟨he, bel⟩ => ?_
  subst he
  exact ⟨_, rfl, _, _, _, [], _, [], hW', trodAll_mk1 (shut_bool Tryz.underlying4 _), (trodAll_cons_mk (shut_int Tryz.underlying3 w0) (trodAll_cons_mk (Below.trod laidOut (by kernel_rfl) (of_decide_eq_true (by kernel_rfl)) k1 bel lt1) trodAll_mk0)), rfl, bel.frame _, fun h => by cases h⟩

theorem over : Rows.ctlCutsRow.holds Tryz.pinned (OpenSpec.ofChange Rows.ctlCutsSpec) :=
  OpenClaim.holds_of_wide 10 Tryz.f10 rfl rfl rfl rfl rfl rfl rfl ⟨rfl, rfl, rfl, rfl, rfl⟩ rfl rfl rfl rfl rfl (by kernel_rfl) Tryz.func10 (by kernel_rfl)
    (of_decide_eq_true (by kernel_rfl)) (by unfold Func.isWrapper; first | (rw [if_pos (by decide +kernel)]; kernel_rfl) | (rw [if_neg (by decide +kernel)]; exact ⟨rfl, rfl⟩))
    (fun os started H enc _ => lifted os started H enc)

theorem proved : Rows.CtlCutsSaid := over
#print axioms proved
end Go.Proofs.YtjhjghakfedeeaaGreat.ctlCuts
