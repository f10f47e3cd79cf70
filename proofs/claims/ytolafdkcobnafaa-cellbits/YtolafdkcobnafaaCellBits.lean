/-
  The law CellBits holds: programs only clear bits and erases only set them, at their place alone; what is cut lies between what was and what is whole; conditions: none beyond what the given row says of every argument.
-/
import Derived.Test.YtolafdkcobnafaaRows
import Derived.Test.YtolafdkcobnafaaBits
import Derived.Deep.QuietTactic
import Derived.BigQuiet
import Derived.WalkKit
import Derived.ProofKit
import Derived.OpenShut
import Derived.ShutString
import Derived.ChangeOld
import Derived.Below
namespace Go.Proofs.Ytolafdkcobnafaa.cellBits
open Go.Proofs.Ytolafdkcobnafaa.Plain
open Go.ChangeShapes Go.WideShapes Go.ChangeAt Go.RowKit
open Go.ChangeMaps (open_string shut_string)
set_option linter.unusedVariables false

theorem own : ownKnob Try.prog.godebug = none := by kernel_rfl
theorem laidOut : laidOutB Try.prog = true := by kernel_rfl

set_option maxRecDepth 100000 in
set_option maxHeartbeats 2000000 in
theorem walk (a0 : ByteArray) (a1 : Int) (a2 : ByteArray) (a3 : Int) (a4 : ByteArray) (w : World) (w0 : a0.size ≤ maxLen) (w1 : (Lit.int .i64 a1).wf = true) (w2 : a2.size ≤ maxLen) (w3 : (Lit.int .i64 a3).wf = true) (w4 : a4.size ≤ maxLen) :
    Calls Try.prog 4 #[.string a0, .int .i64 a1, .string a2, .int .i64 a3, .string a4] w fun e w' => e = .returned (.bool true) ∧ Below w.heap.size w w' := by
  obtain ⟨K, hK, eK⟩ := umod a1 3896 (by omega) (by omega)
  obtain ⟨S, hS, eS⟩ := umod a3 8 (by omega) (by omega)
  have eK' : wrap64 ((IntKind.u64.wrap a1).tmod 3896) = (K : Int) := eK
  have eS' : wrap64 ((IntKind.u64.wrap a3).tmod 8) = (S : Int) := eS
  clear eK eS w1 w3
  by_cases hx : a2.size ≤ 200
  · have hx' : decide ((200 : Int) < (a2.size : Int)) = false := decide_eq_false (by omega)
    go_enter Try.func4, Try.ntmps4
    go_wp2_with fail
    refine (awake_any _).mono ?_
    rintro e w1 ⟨rfl, b1⟩
    go_wp2_with fail
    refine (cells_gives _ _ w0).mono ?_
    rintro e w2 ⟨A, rfl, HA, b2⟩
    go_wp2_with fail
    refine (program_gives A K a2 _ HA.out (by omega)).mono ?_
    rintro e w3 ⟨P, rfl, HP, SP, b3⟩
    go_wp2_with fail
    refine (programCut_gives A K a2 a4 _ HA.out (by omega) (by assumption)).mono ?_
    rintro e w4' ⟨C, rfl, HC, SC, b4⟩
    go_wp2_with fail
    refine (erase_gives A S _ HA.out hS).mono ?_
    rintro e w5 ⟨X, rfl, HX, SX, b5⟩
    go_wp2_with fail
    refine (eraseCut_gives A S a4 _ HA.out hS (by assumption)).mono ?_
    rintro e w6 ⟨D, rfl, HD, SD, b6⟩
    go_wp2_with fail
    refine (programCut_gives A K a2 _ _ HA.out (by omega) (one_ok _)).mono ?_
    rintro e w7 ⟨Q, rfl, HQ, SQ, b7⟩
    obtain rfl : P = Q := HP.out.trans HQ.out.symm
    go_wp2_with fail
    refine (eraseCut_gives A S _ _ HA.out hS none_ok).mono ?_
    rintro e w8 ⟨N, rfl, HN, SN, b8⟩
    obtain rfl : A = N := (HN.out.trans (erase_none A S)).symm
    have bel : Hid (Below w.heap.size w w8) := below_then (below_then (below_then (below_then (below_then (below_then (below_then b1 b2) b3) b4) b5) b6) b7) b8
    have sA : A.size = 4096 := HA.out
    have sP : P.size = 4096 := SP.out
    have sC : C.size = 4096 := SC.out
    have sX : X.size = 4096 := SX.out
    have sD : D.size = 4096 := SD.out
    clear SP SC SX SD SQ SN HN HQ b1 b2 b3 b4 b5 b6 b7 b8 w0 w2 w4
    go_wp2_with (go_at_call 18; refine (num_any _ _).mono ?_; rintro e w' ⟨rfl, rfl⟩)
    go_loopw [26] (fun i wr => ∃ j : Nat, j ≤ 4096 ∧ i = .int .i64 j ∧ Below w.heap.size w wr) (fun i _ => 4096 - (intOf i).toNat)
    case atStart => exact ⟨0, Nat.zero_le _, rfl, bel.out⟩
    case round =>
      obtain ⟨j, hj, rfl, hbl⟩ := hrel
      have HL : Hid (Below w.heap.size w wr) := hbl
      clear bel hbl
      by_cases hlt : j < 4096
      · obtain ⟨x, p, c, d, X1, D1, uA, uP, uC, uX, uD, hin, hout, ec1, ec2, hown, hnot, ed1, ed2⟩ := bits_at HA.out HP.out HC.out HX.out HD.out hlt hS
        have gA := get_ub A
        have gP := get_ub P
        have gC := get_ub C
        have gX := get_ub X
        have gD := get_ub D
        have g2 := get_ub a2
        have j0 : (0 : Int) ≤ (j : Int) := by omega
        have j1 : (j : Int) < 4096 := by omega
        clear HP HC HX HD HA
        by_cases h : K ≤ j ∧ j < K + a2.size
        · obtain ⟨ua, hpd⟩ := hin h
          obtain ⟨k1, k2⟩ := h
          have k3 : (0 : Int) ≤ (j : Int) - (K : Int) := by omega
          have k4 : (j : Int) - (K : Int) < (a2.size : Int) := by omega
          have k5 : ((j : Int) - (K : Int)).toNat = j - K := by omega
          have k6 : decide ((K : Int) ≤ (j : Int)) = true := decide_eq_true (by omega)
          have k7 : decide ((j : Int) < (K : Int) + (a2.size : Int)) = true := decide_eq_true (by omega)
          clear hout hin
          by_cases ho : j / 512 = S
          · have := hown ho
            subst this
            have ho' : ((j : Int) / 512 == (S : Int)) = true := by simp; omega
            have ed3 : bits .or .u8 (D1.toNat : Int) 255 = 255 := ed2
            clear ed2
            clear hown hnot ho
            go_wp2
            go_quiet (fail)
            go_wp2
            go_quiet (fail)
            go_wp2
            go_roundw
            case rel => exact ⟨j + 1, by omega, by go_num, below_drewN HL.out _⟩
            case measure => simp [intOf]; omega
          · have := hnot ho
            subst this
            have ho' : ((j : Int) / 512 == (S : Int)) = false := by simp; omega
            clear hown hnot ho
            go_wp2
            go_quiet (fail)
            go_wp2
            go_quiet (fail)
            go_wp2
            go_roundw
            case rel => exact ⟨j + 1, by omega, by go_num, below_drewN HL.out _⟩
            case measure => simp [intOf]; omega
        · have := hout h
          subst this
          clear hin hout
          by_cases k1 : K ≤ j
          · have k6 : decide ((K : Int) ≤ (j : Int)) = true := decide_eq_true (by omega)
            have k7 : decide ((j : Int) < (K : Int) + (a2.size : Int)) = false := decide_eq_false (by omega)
            clear h
            by_cases ho : j / 512 = S
            · have := hown ho
              subst this
              have ho' : ((j : Int) / 512 == (S : Int)) = true := by simp; omega
              have ed3 : bits .or .u8 (D1.toNat : Int) 255 = 255 := ed2
              clear ed2
              clear hown hnot ho
              go_wp2
              go_quiet (fail)
              go_wp2
              go_quiet (fail)
              go_wp2
              go_roundw
              case rel => exact ⟨j + 1, by omega, by go_num, below_drewN HL.out _⟩
              case measure => simp [intOf]; omega
            · have := hnot ho
              subst this
              have ho' : ((j : Int) / 512 == (S : Int)) = false := by simp; omega
              clear hown hnot ho
              go_wp2
              go_quiet (fail)
              go_wp2
              go_quiet (fail)
              go_wp2
              go_roundw
              case rel => exact ⟨j + 1, by omega, by go_num, below_drewN HL.out _⟩
              case measure => simp [intOf]; omega
          · have k6 : decide ((K : Int) ≤ (j : Int)) = false := decide_eq_false (by omega)
            clear h
            by_cases ho : j / 512 = S
            · have := hown ho
              subst this
              have ho' : ((j : Int) / 512 == (S : Int)) = true := by simp; omega
              have ed3 : bits .or .u8 (D1.toNat : Int) 255 = 255 := ed2
              clear ed2
              clear hown hnot ho
              go_wp2
              go_quiet (fail)
              go_wp2
              go_quiet (fail)
              go_wp2
              go_roundw
              case rel => exact ⟨j + 1, by omega, by go_num, below_drewN HL.out _⟩
              case measure => simp [intOf]; omega
            · have := hnot ho
              subst this
              have ho' : ((j : Int) / 512 == (S : Int)) = false := by simp; omega
              clear hown hnot ho
              go_wp2
              go_quiet (fail)
              go_wp2
              go_quiet (fail)
              go_wp2
              go_roundw
              case rel => exact ⟨j + 1, by omega, by go_num, below_drewN HL.out _⟩
              case measure => simp [intOf]; omega
      · go_wp2
        go_ret
        exact ⟨rfl, HL.out⟩
  · have hx' : decide ((200 : Int) < (a2.size : Int)) = true := decide_eq_true (by omega)
    go_enter Try.func4, Try.ntmps4
    go_wp2_with fail
    refine (awake_any _).mono ?_
    rintro e w1 ⟨rfl, b1⟩
    go_wp2_with fail
    refine (cells_gives _ _ w0).mono ?_
    rintro e w2 ⟨A, rfl, HA, b2⟩
    go_wp2_with fail
    go_ret
    exact ⟨rfl, below_then b1 b2⟩

set_option maxRecDepth 100000 in
theorem lifted (os : Os) (started : os.Started) (H : Type) (enc : TypeId × Value → H) :
    ReturnsInHanded {} Try.checked os 4 .any (Rows.cellBitsSpec.pre6 enc Try.prog Try.f4 Rows.cellBitsRow.domain false) (Rows.cellBitsSpec.post enc Try.prog Try.f4 false true false false) := by
  refine returnsInHanded_of_change (C := Try.checked) own started (by kernel_rfl) Try.func4
    (ChangeSpec.witness6 (enc := enc) (C := Try.checked) false ⟨#[], #[.string ByteArray.empty, .int .i64 0, .string ByteArray.empty, .int .i64 0, .string ByteArray.empty], []⟩ 8 (by kernel_rfl) (by kernel_rfl) (by kernel_rfl) (by kernel_rfl)) ?_
  intro W base args ds gs before hval0 hW hcnd _
  have hval : ∀ (j : Nat) t v, Try.f4.params[j]? = some t → args[j]? = some v → Value.okWide Try.prog W .any base t v := hval0
  have hW' := hW
  obtain ⟨p, q, hA0, hV, rfl, hfz, hnd⟩ := hW
  have hA : DataW.TrodAll enc Try.prog W 0 (fun _ => true) true Try.f4.params.toList args.toList ds p := hA0
  rw [Try.params4] at hA hval
  obtain ⟨v0, vs0, d0, ds0, p0, q0, hargs, rfl, rfl, h0, r0⟩ := trodAll_cons hA
  obtain ⟨v1, vs1, d1, ds1, p1, q1, rfl, rfl, rfl, h1, r1⟩ := trodAll_cons r0
  obtain ⟨v2, vs2, d2, ds2, p2, q2, rfl, rfl, rfl, h2, r2⟩ := trodAll_cons r1
  obtain ⟨v3, vs3, d3, ds3, p3, q3, rfl, rfl, rfl, h3, r3⟩ := trodAll_cons r2
  obtain ⟨v4, vs4, d4, ds4, p4, q4, rfl, rfl, rfl, h4, r4⟩ := trodAll_cons r3
  obtain ⟨rfl, rfl, rfl⟩ := trodAll_nil r4
  obtain rfl : args = #[v0, v1, v2, v3, v4] := by cases args; simp_all
  obtain ⟨rfl, rfl⟩ := trodVars_none hV
  obtain ⟨a0, rfl, rfl, rfl, w0⟩ := open_string Try.underlying9 (hval 0 9 v0 rfl rfl) h0
  obtain ⟨a1, rfl, rfl, rfl, w1⟩ := open_int Try.underlying3 (hval 1 3 v1 rfl rfl) h1
  obtain ⟨a2, rfl, rfl, rfl, w2⟩ := open_string Try.underlying9 (hval 2 9 v2 rfl rfl) h2
  obtain ⟨a3, rfl, rfl, rfl, w3⟩ := open_int Try.underlying3 (hval 3 3 v3 rfl rfl) h3
  obtain ⟨a4, rfl, rfl, rfl, w4⟩ := open_string Try.underlying9 (hval 4 9 v4 rfl rfl) h4
  clear hA0 hval0
  refine (walk a0 a1 a2 a3 a4 W w0 w1 w2 w3 w4).mono fun e W' ⟨he, bel⟩ => ?_
  subst he
  exact ⟨_, rfl, _, _, _, [], _, [], hW', trodAll_mk1 (shut_bool Try.underlying4 _), (trodAll_cons_mk (shut_string Try.underlying9 w0) (trodAll_cons_mk (shut_int Try.underlying3 w1) (trodAll_cons_mk (shut_string Try.underlying9 w2) (trodAll_cons_mk (shut_int Try.underlying3 w3) (trodAll_cons_mk (shut_string Try.underlying9 w4) trodAll_mk0))))), rfl, bel.frame _, fun h => by cases h⟩

theorem over : Rows.cellBitsRow.holds Try.pinned (OpenSpec.ofChange Rows.cellBitsSpec) :=
  OpenClaim.holds_of_wide 4 Try.f4 rfl rfl rfl rfl rfl rfl rfl ⟨rfl, rfl, rfl, rfl, rfl⟩ rfl rfl rfl rfl rfl (by kernel_rfl) Try.func4 (by kernel_rfl)
    (of_decide_eq_true (by kernel_rfl)) (by unfold Func.isWrapper; first | (rw [if_pos (by decide +kernel)]; kernel_rfl) | (rw [if_neg (by decide +kernel)]; exact ⟨rfl, rfl⟩))
    (fun os started H enc _ => lifted os started H enc)

theorem proved : Rows.CellBitsSaid := over
#print axioms proved
end Go.Proofs.Ytolafdkcobnafaa.cellBits
