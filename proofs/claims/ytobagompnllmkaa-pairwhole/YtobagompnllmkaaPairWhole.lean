/-
  The law PairWhole holds: of a slot that is programmed upon bytes 255 in part, or erased in part, nothing is told, or just what was whole; conditions: none beyond what the given row says of every argument.
-/
import Derived.Test.YtobagompnllmkaaRows
import Derived.Test.YtobagompnllmkaaTurns
import Derived.Deep.RegionHeld3
import Derived.Deep.DrawnRows
import Derived.Deep.CutRange
import Derived.WalkKit
import Derived.ProofKit
import Derived.OpenShut
import Derived.ShutString
import Derived.ChangeOld
import Derived.Below
namespace Go.Proofs.Ytobagompnllmkaa.pairWhole
open Go.Proofs.Ytobagompnllmkaa.Plain
open Go.ChangeShapes Go.WideShapes Go.ChangeAt Go.RowKit
open Go.ChangeMaps (open_string shut_string)
set_option linter.unusedVariables false

theorem own : ownKnob Try.prog.godebug = none := by kernel_rfl
theorem laidOut : laidOutB Try.prog = true := by kernel_rfl

set_option maxRecDepth 100000 in
set_option maxHeartbeats 4000000 in
theorem walk (a0 : ByteArray) (a1 : ByteArray) (a2 : ByteArray) (a3 : ByteArray) (a4 : Int) (w : World) (w0 : a0.size ≤ maxLen) (w1 : a1.size ≤ maxLen) (w2 : a2.size ≤ maxLen) (w3 : a3.size ≤ maxLen) (w4 : (Lit.int .i64 a4).wf = true) :
    Calls Try.prog 4 #[.string a0, .string a1, .string a2, .string a3, .int .i64 a4] w fun e w' => e = .returned (.bool true) ∧ Below w.heap.size w w' := by
  obtain ⟨L, hL, eL⟩ := umod a4 64 (by omega) (by omega)
  have eL' : wrap64 ((IntKind.u64.wrap a4).tmod 64) = (L : Int) := eL
  clear eL w4
  obtain ⟨K, hK⟩ : ∃ K, K = 64 * L := ⟨_, rfl⟩
  have hK3 : Hid (64 * (L : Int) = (K : Int)) := by rw [Hid]; omega
  go_enter Try.func4, Try.ntmps4
  go_wp2_with fail
  refine (awake_any _).mono ?_
  rintro e v1 ⟨rfl, b1⟩
  go_wp2_with fail
  refine (text_gives _ 32 _ w0 (by omega)).mono ?_
  rintro e v2 ⟨X, rfl, HX, SX, b2⟩
  go_wp2_with fail
  refine (put_gives _ _ SX.out).mono ?_
  rintro e v3 ⟨T, rfl, HT, ST, b3⟩
  have sT := ST.out
  go_wp2_with fail
  rw [hK3.out]
  have hKb : K + 64 ≤ 4096 := by omega
  clear hK3 hK eL' hL
  have HD : Hid ((T.extract 0 32).size = 32) := by rw [Hid, ByteArray.size_extract]; omega
  go_cut [15, 16] from 37 (fun a f wc => ∃ A, a = .string A ∧ f = .int .i64 0 ∧ Hid (A = prog (full 4096) K (T.extract 0 32) a1) ∧ Hid (A.size = 4096) ∧ Below v3.heap.size v3 wc)
  case first =>
    go_region_with (first | (go_at_call 17; refine (blank_is _).mono ?_; rintro e v4 ⟨F, rfl, HF, b4⟩) | (go_at_call 16; refine (programCut_gives F K (T.extract 0 32) a1 _ ?_ ?_ ?_).mono ?_; exact full_size HF.out; (have := HD.out; omega); exact w1; rintro e v5 ⟨A, rfl, HA, SA, b5⟩))
    all_goals
      go_wp2_with fail
      go_meet
      case rel => exact ⟨A, rfl, rfl, by rw [Hid, HA.out, HF.out], SA, below_then (below_then ((Below.refl _ _).drew) b4) b5⟩
  case rest =>
    obtain ⟨A, rfl, rfl, HA, SA, b4⟩ := hcut
    have HE : Hid ((T.extract 32 64).size = 32) := by rw [Hid, ByteArray.size_extract]; omega
    have okE : Hid ((T.extract 32 64).size ≤ maxLen) := by rw [Hid, HE.out]; unfold maxLen; omega
    go_wp2_with (go_at_call 13; refine (num_any _ _).mono ?_; rintro e w' ⟨rfl, rfl⟩)
    refine (programCut_any _ _ _ _ _ okE.out w2).mono ?_
    rintro e v5 ⟨B, n1, rfl, HB0, N1, b5⟩
    obtain rfl : n1 = 0 := N1.out.trans (pcN_yes SA.out (by omega) (by rw [HE.out]; omega))
    have HB : Hid (B = prog A (K + 32) (T.extract 32 64) a2) := HB0.out.trans (pcS_add (c := 32) SA.out (by rw [HE.out]; omega))
    have SB : Hid (B.size = 4096) := by rw [Hid, HB.out, prog_size, SA.out]
    have sB := SB.out
    have HU : Hid (Over (B.extract K (K + 64)) (put X)) := slot_over (F := full 4096) rfl hKb HT.out rfl rfl (by rw [HB.out, HA.out])
    have SU : Hid ((B.extract K (K + 64)).size = 64) := by rw [Hid, ByteArray.size_extract]; omega
    clear HB0 N1 HD HE okE HA SA HB
    go_wp2_with (go_at_call 13; refine (num_any _ _).mono ?_; rintro e w' ⟨rfl, rfl⟩)
    refine (get_over X (B.extract K (K + 64)) _ SX.out SU.out HU.out).mono ?_
    rintro e v6 ⟨U, n2, rfl, U1, U2, b6⟩
    by_cases hU : B.extract K (K + 64) = T
    · obtain ⟨h1, rfl⟩ := U1.out (hU.trans HT.out)
      obtain rfl : X = U := h1.symm
      clear U1 U2 w0 w1 w2
      go_wp2_with (go_at_call 13; refine (num_any _ _).mono ?_; rintro e w' ⟨rfl, rfl⟩)
      refine (eraseCut_any _ _ _ _ w3).mono ?_
      rintro e v7 ⟨C, n3, rfl, HC0, N3, b7⟩
      obtain rfl : n3 = 0 := N3.out.trans (ecN_yes SB.out (by omega) (by omega))
      have HC : Hid (C = erase B (K / 512) a3) := HC0.out.trans (ecS_div SB.out (by omega))
      have SC : Hid (C.size = 4096) := by rw [Hid, HC.out, erase_size, SB.out]
      have sC := SC.out
      have HW : Hid (Over (C.extract K (K + 64)) (B.extract K (K + 64))) := erase_slot_over SB.out hKb HC.out
      have HV : Hid (Over (C.extract K (K + 64)) (put X)) := HW.out.trans HU.out
      have SV : Hid ((C.extract K (K + 64)).size = 64) := by rw [Hid, ByteArray.size_extract]; omega
      clear HC0 N3 HC
      go_wp2_with (go_at_call 13; refine (num_any _ _).mono ?_; rintro e w' ⟨rfl, rfl⟩)
      refine (get_over X (C.extract K (K + 64)) _ SX.out SV.out HV.out).mono ?_
      rintro e v8 ⟨V, n4, rfl, V1, V2, b8⟩
      have bel : Hid (Below w.heap.size w v8) := below_then (below_then (below_then (below_then (below_then (below_then (below_then b1 b2) b3) b4) b5) b6) b7) b8
      clear b1 b2 b3 b4 b5 b6 b7 b8
      by_cases hV : C.extract K (K + 64) = T
      · obtain ⟨h1, rfl⟩ := V1.out (hV.trans HT.out)
        obtain rfl : X = V := h1.symm
        clear V1 V2 HV SV HW HU SU HT SX
        by_cases hCB : C = B
        · have eCB : (C.toList == B.toList) = true := by rw [eq_iff]; exact decide_eq_true hCB
          clear hCB
          go_wp2_with (go_at_call 13; refine (num_any _ _).mono ?_; rintro e w' ⟨rfl, rfl⟩)
          go_ret
          exact ⟨rfl, bel.out⟩
        · have eCB : (C.toList == B.toList) = false := by rw [eq_iff]; exact decide_eq_false hCB
          clear hCB
          go_wp2_with (go_at_call 13; refine (num_any _ _).mono ?_; rintro e w' ⟨rfl, rfl⟩)
          go_ret
          exact ⟨rfl, bel.out⟩
      · obtain rfl : n4 = 200 := V2.out (fun e => hV (e.trans HT.out.symm))
        have eCB : (C.toList == B.toList) = false := by rw [eq_iff]; exact decide_eq_false (fun e => hV (by rw [e]; exact hU))
        have eV : ((C.extract K (K + 64)).toList == T.toList) = false := by rw [eq_iff]; exact decide_eq_false hV
        clear V1 V2 HV SV HW HU SU HT SX hV
        go_wp2_with (go_at_call 13; refine (num_any _ _).mono ?_; rintro e w' ⟨rfl, rfl⟩)
        go_ret
        exact ⟨rfl, bel.out⟩
    · obtain rfl : n2 = 200 := U2.out (fun e => hU (e.trans HT.out.symm))
      have eU : ((B.extract K (K + 64)).toList == T.toList) = false := by rw [eq_iff]; exact decide_eq_false hU
      have HUn : Hid (B.extract K (K + 64) ≠ T) := hU
      clear U1 U2 w0 w1 w2 hU
      go_wp2_with (go_at_call 13; refine (num_any _ _).mono ?_; rintro e w' ⟨rfl, rfl⟩)
      refine (eraseCut_any _ _ _ _ w3).mono ?_
      rintro e v7 ⟨C, n3, rfl, HC0, N3, b7⟩
      obtain rfl : n3 = 0 := N3.out.trans (ecN_yes SB.out (by omega) (by omega))
      have HC : Hid (C = erase B (K / 512) a3) := HC0.out.trans (ecS_div SB.out (by omega))
      have SC : Hid (C.size = 4096) := by rw [Hid, HC.out, erase_size, SB.out]
      have sC := SC.out
      have HW : Hid (Over (C.extract K (K + 64)) (B.extract K (K + 64))) := erase_slot_over SB.out hKb HC.out
      have HV : Hid (Over (C.extract K (K + 64)) (put X)) := HW.out.trans HU.out
      have SV : Hid ((C.extract K (K + 64)).size = 64) := by rw [Hid, ByteArray.size_extract]; omega
      clear HC0 N3 HC
      go_wp2_with (go_at_call 13; refine (num_any _ _).mono ?_; rintro e w' ⟨rfl, rfl⟩)
      refine (get_over X (C.extract K (K + 64)) _ SX.out SV.out HV.out).mono ?_
      rintro e v8 ⟨V, n4, rfl, V1, V2, b8⟩
      have bel : Hid (Below w.heap.size w v8) := below_then (below_then (below_then (below_then (below_then (below_then (below_then b1 b2) b3) b4) b5) b6) b7) b8
      clear b1 b2 b3 b4 b5 b6 b7 b8
      have hV : C.extract K (K + 64) ≠ put X := fun e => HUn.out ((Over.anti SU.out (put_size X) HU.out (by rw [← e]; exact HW.out)).trans HT.out.symm)
      obtain rfl : n4 = 200 := V2.out hV
      clear V1 V2 HV SV HW HU SU HT SX hV HUn
      go_wp2_with (go_at_call 13; refine (num_any _ _).mono ?_; rintro e w' ⟨rfl, rfl⟩)
      go_ret
      exact ⟨rfl, bel.out⟩

set_option maxRecDepth 100000 in
theorem lifted (os : Os) (started : os.Started) (H : Type) (enc : TypeId × Value → H) :
    ReturnsInHanded {} Try.checked os 4 .any (Rows.pairWholeSpec.pre6 enc Try.prog Try.f4 Rows.pairWholeRow.domain false) (Rows.pairWholeSpec.post enc Try.prog Try.f4 false true false false) := by
  refine returnsInHanded_of_change (C := Try.checked) own started (by kernel_rfl) Try.func4
    (ChangeSpec.witness6 (enc := enc) (C := Try.checked) false ⟨#[], #[.string ByteArray.empty, .string ByteArray.empty, .string ByteArray.empty, .string ByteArray.empty, .int .i64 0], []⟩ 8 (by kernel_rfl) (by kernel_rfl) (by kernel_rfl) (by kernel_rfl)) ?_
  intro W base args ds gs before hval0 hW hcnd _
  have hval : ∀ (j : Nat) t v, Try.f4.params[j]? = some t → args[j]? = some v → Value.okWide Try.prog W .any base t v := hval0
  have hW' := hW
  obtain ⟨p, q, hA0, hV, rfl, hfz, hnd⟩ := hW
  have hA : DataW.TrodAll enc Try.prog W 0 (fun _ => true) true Try.f4.params.toList args.toList ds p := hA0
  rw [Try.params4] at hA hval
  obtain ⟨v0, vs0, d0, ds0, p0, q0, hargs, rfl, rfl, h0, r0⟩ := trodAll_cons hA
  obtain ⟨v1, vs1, d1, ds1, p1, q1, rfl, rfl, rfl, h1, r1⟩ := trodAll_cons r0
  obtain ⟨v2, vs2, d2, ds2, p2, q2, rfl, rfl, rfl, h2, r2⟩ := trodAll_cons r1
  obtain ⟨v3, vs3, d3, ds3, p3, q3, rfl, rfl, rfl, h3, r3⟩ := trodAll_cons r2
  obtain ⟨v4, vs4, d4, ds4, p4, q4, rfl, rfl, rfl, h4, r4⟩ := trodAll_cons r3
  obtain ⟨rfl, rfl, rfl⟩ := trodAll_nil r4
  obtain rfl : args = #[v0, v1, v2, v3, v4] := by cases args; simp_all
  obtain ⟨rfl, rfl⟩ := trodVars_none hV
  obtain ⟨a0, rfl, rfl, rfl, w0⟩ := open_string Try.underlying9 (hval 0 9 v0 rfl rfl) h0
  obtain ⟨a1, rfl, rfl, rfl, w1⟩ := open_string Try.underlying9 (hval 1 9 v1 rfl rfl) h1
  obtain ⟨a2, rfl, rfl, rfl, w2⟩ := open_string Try.underlying9 (hval 2 9 v2 rfl rfl) h2
  obtain ⟨a3, rfl, rfl, rfl, w3⟩ := open_string Try.underlying9 (hval 3 9 v3 rfl rfl) h3
  obtain ⟨a4, rfl, rfl, rfl, w4⟩ := open_int Try.underlying3 (hval 4 3 v4 rfl rfl) h4
  clear hA0 hval0
  refine (walk a0 a1 a2 a3 a4 W w0 w1 w2 w3 w4).mono fun e W' ⟨he, bel⟩ => ?_
  subst he
  exact ⟨_, rfl, _, _, _, [], _, [], hW', trodAll_mk1 (shut_bool Try.underlying4 _), (trodAll_cons_mk (shut_string Try.underlying9 w0) (trodAll_cons_mk (shut_string Try.underlying9 w1) (trodAll_cons_mk (shut_string Try.underlying9 w2) (trodAll_cons_mk (shut_string Try.underlying9 w3) (trodAll_cons_mk (shut_int Try.underlying3 w4) trodAll_mk0))))), rfl, bel.frame _, fun h => by cases h⟩

theorem over : Rows.pairWholeRow.holds Try.pinned (OpenSpec.ofChange Rows.pairWholeSpec) :=
  OpenClaim.holds_of_wide 4 Try.f4 rfl rfl rfl rfl rfl rfl rfl ⟨rfl, rfl, rfl, rfl, rfl⟩ rfl rfl rfl rfl rfl (by kernel_rfl) Try.func4 (by kernel_rfl)
    (of_decide_eq_true (by kernel_rfl)) (by unfold Func.isWrapper; first | (rw [if_pos (by decide +kernel)]; kernel_rfl) | (rw [if_neg (by decide +kernel)]; exact ⟨rfl, rfl⟩))
    (fun os started H enc _ => lifted os started H enc)

theorem proved : Rows.PairWholeSaid := over
#print axioms proved
end Go.Proofs.Ytobagompnllmkaa.pairWhole
