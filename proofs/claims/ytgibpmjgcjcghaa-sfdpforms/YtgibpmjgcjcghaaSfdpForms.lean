/-
  SfdpForms: numbers that are no powers of 2, texts that are none. No conditions.
-/
import Derived.Test.YtgibpmjgcjcghaaRows
import Derived.Test.YtgibpmjgcjcghaaShift
import Derived.BigRegion
import Derived.WalkKit
import Derived.ProofKit
import Derived.OpenShut
import Derived.ShutString
import Derived.ChangeOld
import Derived.Below
namespace Go.Proofs.Ytgibpmjgcjcghaa.sfdpForms
open Go.Proofs.Ytgibpmjgcjcghaa.Plain
open Go.ChangeShapes Go.WideShapes Go.ChangeAt Go.RowKit
open Go.ChangeMaps (open_string shut_string)
set_option linter.unusedVariables false

theorem own : ownKnob Try.prog.godebug = none := by kernel_rfl
theorem laidOut : laidOutB Try.prog = true := by kernel_rfl

set_option maxRecDepth 100000 in
set_option maxHeartbeats 8000000 in
theorem walk (a0 : Int) (a1 : Int) (w : World) (w0 : (Lit.int .i64 a0).wf = true) (w1 : (Lit.int .i64 a1).wf = true) :
    Calls Try.prog 5 #[.int .i64 a0, .int .i64 a1] w fun e w' => e = .returned (.bool true) ∧ Below w.heap.size w w' := by
  obtain ⟨k, hk, ek0⟩ := umod a0 7 (by decide) (by decide)
  have ek : wrap64 ((IntKind.u64.wrap a0).tmod 7) = (k : Int) := ek0
  clear ek0
  have ed := and_1023 a1
  have hneg : mayB (-(1 + a1 % 1024)) = false := mayB_under (by omega)
  have m0 : mayB 0 = false := by decide +kernel
  have m3 : mayB 3 = false := by decide +kernel
  have m4 : mayB 65537 = false := by decide +kernel
  have m5 : mayB 131072 = false := by decide +kernel
  have m6 : mayB 12 = false := by decide +kernel
  have m7 : mayB (-1099511627776) = false := by decide +kernel
  rcases (by omega : k = 0 ∨ k = 1 ∨ k = 2 ∨ k = 3 ∨ k = 4 ∨ k = 5 ∨ k = 6) with rfl | rfl | rfl | rfl | rfl | rfl | rfl
  · go_enter Try.func5, Try.ntmps5
    go_wp2_with fail
    refine (awake_any _).mono ?_
    rintro e u1 ⟨rfl, b1⟩
    go_wp2_with fail
    refine (put_none _ _ _ _ (mays_a (by assumption))).mono ?_
    rintro e u2 ⟨rfl, b2⟩
    have B2 : Hid (Below w.heap.size w u2) := below_then b1 (below_lit b2)
    clear b1 b2
    go_wp2_with fail
    refine (put_none _ _ _ _ (mays_b (by assumption))).mono ?_
    rintro e u3 ⟨rfl, b3⟩
    have B3 : Hid (Below w.heap.size w u3) := below_then B2.out b3
    clear B2 b3
    go_wp2_with fail
    refine (put_none _ _ _ _ (mays_c (by assumption))).mono ?_
    rintro e u4 ⟨rfl, b4⟩
    have B4 : Hid (Below w.heap.size w u4) := below_then B3.out b4
    clear B3 b4
    go_wp2_with fail
    refine (put_of 65536 1 32768 _ (by decide +kernel) (by decide +kernel) (by decide +kernel)).mono ?_
    rintro e u5 ⟨S, rfl, HS, b5⟩
    have B5 : Hid (Below w.heap.size w u5) := below_then B4.out b5
    clear B4 b5 hneg m0 m3 m4 m5 m6 m7
    have hS : S.size = 32 := by rw [HS.out, put_size]
    go_wp2_with (first | (go_at_call 11; refine (num_any _ _).mono ?_; rintro e w' ⟨rfl, rfl⟩) | fail)
    have z1 : (S.extract 0 31).size = 31 := by rw [ByteArray.size_extract]; omega
    have z2 : (S.extract 4 32).size = 28 := by rw [ByteArray.size_extract]; omega
    have z3 : (S.extract 0 8).size = 8 := by rw [ByteArray.size_extract]; omega
    have z4 : (S.extract 12 32).size = 20 := by rw [ByteArray.size_extract]; omega
    have z5 : (S.extract 0 7).size = 7 := by rw [ByteArray.size_extract]; omega
    have z6 : (S.extract 8 32).size = 24 := by rw [ByteArray.size_extract]; omega
    go_region
    go_wp2_with fail
    refine (get_of _ _ 0 0 0 700 ?hs ?hg).mono ?_
    case hs => decide
    case hg => exact getIs_size (by decide)
    rintro e u6 ⟨rfl, b6⟩
    have B6 : Hid (Below w.heap.size w u6) := below_then ((B5.out.alloc B5.out.size _).drew) b6
    clear b6 B5
    go_wp2_with (go_at_call 11; refine (num_any _ _).mono ?_; rintro e w' ⟨rfl, rfl⟩)
    go_ret
    exact ⟨rfl, B6.out⟩
  · go_enter Try.func5, Try.ntmps5
    go_wp2_with fail
    refine (awake_any _).mono ?_
    rintro e u1 ⟨rfl, b1⟩
    go_wp2_with fail
    refine (put_none _ _ _ _ (mays_a (by assumption))).mono ?_
    rintro e u2 ⟨rfl, b2⟩
    have B2 : Hid (Below w.heap.size w u2) := below_then b1 (below_lit b2)
    clear b1 b2
    go_wp2_with fail
    refine (put_none _ _ _ _ (mays_b (by assumption))).mono ?_
    rintro e u3 ⟨rfl, b3⟩
    have B3 : Hid (Below w.heap.size w u3) := below_then B2.out b3
    clear B2 b3
    go_wp2_with fail
    refine (put_none _ _ _ _ (mays_c (by assumption))).mono ?_
    rintro e u4 ⟨rfl, b4⟩
    have B4 : Hid (Below w.heap.size w u4) := below_then B3.out b4
    clear B3 b4
    go_wp2_with fail
    refine (put_of 65536 1 32768 _ (by decide +kernel) (by decide +kernel) (by decide +kernel)).mono ?_
    rintro e u5 ⟨S, rfl, HS, b5⟩
    have B5 : Hid (Below w.heap.size w u5) := below_then B4.out b5
    clear B4 b5 hneg m0 m3 m4 m5 m6 m7
    have hS : S.size = 32 := by rw [HS.out, put_size]
    go_wp2_with (first | (go_at_call 11; refine (num_any _ _).mono ?_; rintro e w' ⟨rfl, rfl⟩) | fail)
    have z1 : (S.extract 0 31).size = 31 := by rw [ByteArray.size_extract]; omega
    have z2 : (S.extract 4 32).size = 28 := by rw [ByteArray.size_extract]; omega
    have z3 : (S.extract 0 8).size = 8 := by rw [ByteArray.size_extract]; omega
    have z4 : (S.extract 12 32).size = 20 := by rw [ByteArray.size_extract]; omega
    have z5 : (S.extract 0 7).size = 7 := by rw [ByteArray.size_extract]; omega
    have z6 : (S.extract 8 32).size = 24 := by rw [ByteArray.size_extract]; omega
    go_region
    go_wp2_with fail
    refine (get_of _ _ 0 0 0 700 ?hs ?hg).mono ?_
    case hs => rw [z1]; decide
    case hg => exact getIs_size (by rw [z1]; decide)
    rintro e u6 ⟨rfl, b6⟩
    have B6 : Hid (Below w.heap.size w u6) := below_then ((B5.out.alloc B5.out.size _).drew) b6
    clear b6 B5
    go_wp2_with (go_at_call 11; refine (num_any _ _).mono ?_; rintro e w' ⟨rfl, rfl⟩)
    go_ret
    exact ⟨rfl, B6.out⟩
  · go_enter Try.func5, Try.ntmps5
    go_wp2_with fail
    refine (awake_any _).mono ?_
    rintro e u1 ⟨rfl, b1⟩
    go_wp2_with fail
    refine (put_none _ _ _ _ (mays_a (by assumption))).mono ?_
    rintro e u2 ⟨rfl, b2⟩
    have B2 : Hid (Below w.heap.size w u2) := below_then b1 (below_lit b2)
    clear b1 b2
    go_wp2_with fail
    refine (put_none _ _ _ _ (mays_b (by assumption))).mono ?_
    rintro e u3 ⟨rfl, b3⟩
    have B3 : Hid (Below w.heap.size w u3) := below_then B2.out b3
    clear B2 b3
    go_wp2_with fail
    refine (put_none _ _ _ _ (mays_c (by assumption))).mono ?_
    rintro e u4 ⟨rfl, b4⟩
    have B4 : Hid (Below w.heap.size w u4) := below_then B3.out b4
    clear B3 b4
    go_wp2_with fail
    refine (put_of 65536 1 32768 _ (by decide +kernel) (by decide +kernel) (by decide +kernel)).mono ?_
    rintro e u5 ⟨S, rfl, HS, b5⟩
    have B5 : Hid (Below w.heap.size w u5) := below_then B4.out b5
    clear B4 b5 hneg m0 m3 m4 m5 m6 m7
    have hS : S.size = 32 := by rw [HS.out, put_size]
    go_wp2_with (first | (go_at_call 11; refine (num_any _ _).mono ?_; rintro e w' ⟨rfl, rfl⟩) | fail)
    have z1 : (S.extract 0 31).size = 31 := by rw [ByteArray.size_extract]; omega
    have z2 : (S.extract 4 32).size = 28 := by rw [ByteArray.size_extract]; omega
    have z3 : (S.extract 0 8).size = 8 := by rw [ByteArray.size_extract]; omega
    have z4 : (S.extract 12 32).size = 20 := by rw [ByteArray.size_extract]; omega
    have z5 : (S.extract 0 7).size = 7 := by rw [ByteArray.size_extract]; omega
    have z6 : (S.extract 8 32).size = 24 := by rw [ByteArray.size_extract]; omega
    go_region
    go_wp2_with fail
    refine (get_of _ _ 0 0 0 700 ?hs ?hg).mono ?_
    case hs => rw [ByteArray.size_append, hS]; decide
    case hg => exact getIs_size (by rw [ByteArray.size_append, hS]; decide)
    rintro e u6 ⟨rfl, b6⟩
    have B6 : Hid (Below w.heap.size w u6) := below_then ((B5.out.alloc B5.out.size _).drew) b6
    clear b6 B5
    go_wp2_with (go_at_call 11; refine (num_any _ _).mono ?_; rintro e w' ⟨rfl, rfl⟩)
    go_ret
    exact ⟨rfl, B6.out⟩
  · go_enter Try.func5, Try.ntmps5
    go_wp2_with fail
    refine (awake_any _).mono ?_
    rintro e u1 ⟨rfl, b1⟩
    go_wp2_with fail
    refine (put_none _ _ _ _ (mays_a (by assumption))).mono ?_
    rintro e u2 ⟨rfl, b2⟩
    have B2 : Hid (Below w.heap.size w u2) := below_then b1 (below_lit b2)
    clear b1 b2
    go_wp2_with fail
    refine (put_none _ _ _ _ (mays_b (by assumption))).mono ?_
    rintro e u3 ⟨rfl, b3⟩
    have B3 : Hid (Below w.heap.size w u3) := below_then B2.out b3
    clear B2 b3
    go_wp2_with fail
    refine (put_none _ _ _ _ (mays_c (by assumption))).mono ?_
    rintro e u4 ⟨rfl, b4⟩
    have B4 : Hid (Below w.heap.size w u4) := below_then B3.out b4
    clear B3 b4
    go_wp2_with fail
    refine (put_of 65536 1 32768 _ (by decide +kernel) (by decide +kernel) (by decide +kernel)).mono ?_
    rintro e u5 ⟨S, rfl, HS, b5⟩
    have B5 : Hid (Below w.heap.size w u5) := below_then B4.out b5
    clear B4 b5 hneg m0 m3 m4 m5 m6 m7
    have hS : S.size = 32 := by rw [HS.out, put_size]
    go_wp2_with (first | (go_at_call 11; refine (num_any _ _).mono ?_; rintro e w' ⟨rfl, rfl⟩) | fail)
    have z1 : (S.extract 0 31).size = 31 := by rw [ByteArray.size_extract]; omega
    have z2 : (S.extract 4 32).size = 28 := by rw [ByteArray.size_extract]; omega
    have z3 : (S.extract 0 8).size = 8 := by rw [ByteArray.size_extract]; omega
    have z4 : (S.extract 12 32).size = 20 := by rw [ByteArray.size_extract]; omega
    have z5 : (S.extract 0 7).size = 7 := by rw [ByteArray.size_extract]; omega
    have z6 : (S.extract 8 32).size = 24 := by rw [ByteArray.size_extract]; omega
    go_region
    go_wp2_with fail
    refine (get_of _ _ 0 0 0 700 ?hs ?hg).mono ?_
    case hs => simp only [ByteArray.size_append, ByteArray.size_extract, hS]; decide
    case hg => exact forms3 HS.out
    rintro e u6 ⟨rfl, b6⟩
    have B6 : Hid (Below w.heap.size w u6) := below_then ((B5.out.alloc B5.out.size _).drew) b6
    clear b6 B5
    go_wp2_with (go_at_call 11; refine (num_any _ _).mono ?_; rintro e w' ⟨rfl, rfl⟩)
    go_ret
    exact ⟨rfl, B6.out⟩
  · go_enter Try.func5, Try.ntmps5
    go_wp2_with fail
    refine (awake_any _).mono ?_
    rintro e u1 ⟨rfl, b1⟩
    go_wp2_with fail
    refine (put_none _ _ _ _ (mays_a (by assumption))).mono ?_
    rintro e u2 ⟨rfl, b2⟩
    have B2 : Hid (Below w.heap.size w u2) := below_then b1 (below_lit b2)
    clear b1 b2
    go_wp2_with fail
    refine (put_none _ _ _ _ (mays_b (by assumption))).mono ?_
    rintro e u3 ⟨rfl, b3⟩
    have B3 : Hid (Below w.heap.size w u3) := below_then B2.out b3
    clear B2 b3
    go_wp2_with fail
    refine (put_none _ _ _ _ (mays_c (by assumption))).mono ?_
    rintro e u4 ⟨rfl, b4⟩
    have B4 : Hid (Below w.heap.size w u4) := below_then B3.out b4
    clear B3 b4
    go_wp2_with fail
    refine (put_of 65536 1 32768 _ (by decide +kernel) (by decide +kernel) (by decide +kernel)).mono ?_
    rintro e u5 ⟨S, rfl, HS, b5⟩
    have B5 : Hid (Below w.heap.size w u5) := below_then B4.out b5
    clear B4 b5 hneg m0 m3 m4 m5 m6 m7
    have hS : S.size = 32 := by rw [HS.out, put_size]
    go_wp2_with (first | (go_at_call 11; refine (num_any _ _).mono ?_; rintro e w' ⟨rfl, rfl⟩) | fail)
    have z1 : (S.extract 0 31).size = 31 := by rw [ByteArray.size_extract]; omega
    have z2 : (S.extract 4 32).size = 28 := by rw [ByteArray.size_extract]; omega
    have z3 : (S.extract 0 8).size = 8 := by rw [ByteArray.size_extract]; omega
    have z4 : (S.extract 12 32).size = 20 := by rw [ByteArray.size_extract]; omega
    have z5 : (S.extract 0 7).size = 7 := by rw [ByteArray.size_extract]; omega
    have z6 : (S.extract 8 32).size = 24 := by rw [ByteArray.size_extract]; omega
    go_region
    go_wp2_with fail
    refine (get_of _ _ 0 0 0 700 ?hs ?hg).mono ?_
    case hs => simp only [ByteArray.size_append, ByteArray.size_extract, hS]; decide
    case hg => exact forms4 HS.out
    rintro e u6 ⟨rfl, b6⟩
    have B6 : Hid (Below w.heap.size w u6) := below_then ((B5.out.alloc B5.out.size _).drew) b6
    clear b6 B5
    go_wp2_with (go_at_call 11; refine (num_any _ _).mono ?_; rintro e w' ⟨rfl, rfl⟩)
    go_ret
    exact ⟨rfl, B6.out⟩
  · go_enter Try.func5, Try.ntmps5
    go_wp2_with fail
    refine (awake_any _).mono ?_
    rintro e u1 ⟨rfl, b1⟩
    go_wp2_with fail
    refine (put_none _ _ _ _ (mays_a (by assumption))).mono ?_
    rintro e u2 ⟨rfl, b2⟩
    have B2 : Hid (Below w.heap.size w u2) := below_then b1 (below_lit b2)
    clear b1 b2
    go_wp2_with fail
    refine (put_none _ _ _ _ (mays_b (by assumption))).mono ?_
    rintro e u3 ⟨rfl, b3⟩
    have B3 : Hid (Below w.heap.size w u3) := below_then B2.out b3
    clear B2 b3
    go_wp2_with fail
    refine (put_none _ _ _ _ (mays_c (by assumption))).mono ?_
    rintro e u4 ⟨rfl, b4⟩
    have B4 : Hid (Below w.heap.size w u4) := below_then B3.out b4
    clear B3 b4
    go_wp2_with fail
    refine (put_of 65536 1 32768 _ (by decide +kernel) (by decide +kernel) (by decide +kernel)).mono ?_
    rintro e u5 ⟨S, rfl, HS, b5⟩
    have B5 : Hid (Below w.heap.size w u5) := below_then B4.out b5
    clear B4 b5 hneg m0 m3 m4 m5 m6 m7
    have hS : S.size = 32 := by rw [HS.out, put_size]
    go_wp2_with (first | (go_at_call 11; refine (num_any _ _).mono ?_; rintro e w' ⟨rfl, rfl⟩) | fail)
    have z1 : (S.extract 0 31).size = 31 := by rw [ByteArray.size_extract]; omega
    have z2 : (S.extract 4 32).size = 28 := by rw [ByteArray.size_extract]; omega
    have z3 : (S.extract 0 8).size = 8 := by rw [ByteArray.size_extract]; omega
    have z4 : (S.extract 12 32).size = 20 := by rw [ByteArray.size_extract]; omega
    have z5 : (S.extract 0 7).size = 7 := by rw [ByteArray.size_extract]; omega
    have z6 : (S.extract 8 32).size = 24 := by rw [ByteArray.size_extract]; omega
    go_region
    go_wp2_with fail
    refine (get_of _ _ 0 0 0 700 ?hs ?hg).mono ?_
    case hs => simp only [ByteArray.size_append, ByteArray.size_extract, hS]; decide
    case hg => exact forms5 HS.out
    rintro e u6 ⟨rfl, b6⟩
    have B6 : Hid (Below w.heap.size w u6) := below_then ((B5.out.alloc B5.out.size _).drew) b6
    clear b6 B5
    go_wp2_with (go_at_call 11; refine (num_any _ _).mono ?_; rintro e w' ⟨rfl, rfl⟩)
    go_ret
    exact ⟨rfl, B6.out⟩
  · go_enter Try.func5, Try.ntmps5
    go_wp2_with fail
    refine (awake_any _).mono ?_
    rintro e u1 ⟨rfl, b1⟩
    go_wp2_with fail
    refine (put_none _ _ _ _ (mays_a (by assumption))).mono ?_
    rintro e u2 ⟨rfl, b2⟩
    have B2 : Hid (Below w.heap.size w u2) := below_then b1 (below_lit b2)
    clear b1 b2
    go_wp2_with fail
    refine (put_none _ _ _ _ (mays_b (by assumption))).mono ?_
    rintro e u3 ⟨rfl, b3⟩
    have B3 : Hid (Below w.heap.size w u3) := below_then B2.out b3
    clear B2 b3
    go_wp2_with fail
    refine (put_none _ _ _ _ (mays_c (by assumption))).mono ?_
    rintro e u4 ⟨rfl, b4⟩
    have B4 : Hid (Below w.heap.size w u4) := below_then B3.out b4
    clear B3 b4
    go_wp2_with fail
    refine (put_of 65536 1 32768 _ (by decide +kernel) (by decide +kernel) (by decide +kernel)).mono ?_
    rintro e u5 ⟨S, rfl, HS, b5⟩
    have B5 : Hid (Below w.heap.size w u5) := below_then B4.out b5
    clear B4 b5 hneg m0 m3 m4 m5 m6 m7
    have hS : S.size = 32 := by rw [HS.out, put_size]
    go_wp2_with (first | (go_at_call 11; refine (num_any _ _).mono ?_; rintro e w' ⟨rfl, rfl⟩) | fail)
    have z1 : (S.extract 0 31).size = 31 := by rw [ByteArray.size_extract]; omega
    have z2 : (S.extract 4 32).size = 28 := by rw [ByteArray.size_extract]; omega
    have z3 : (S.extract 0 8).size = 8 := by rw [ByteArray.size_extract]; omega
    have z4 : (S.extract 12 32).size = 20 := by rw [ByteArray.size_extract]; omega
    have z5 : (S.extract 0 7).size = 7 := by rw [ByteArray.size_extract]; omega
    have z6 : (S.extract 8 32).size = 24 := by rw [ByteArray.size_extract]; omega
    go_region
    go_wp2_with fail
    refine (get_of _ _ 0 0 0 700 ?hs ?hg).mono ?_
    case hs => simp only [ByteArray.size_append, ByteArray.size_extract, hS]; decide
    case hg => exact forms6 HS.out
    rintro e u6 ⟨rfl, b6⟩
    have B6 : Hid (Below w.heap.size w u6) := below_then ((B5.out.alloc B5.out.size _).drew) b6
    clear b6 B5
    go_wp2_with (go_at_call 11; refine (num_any _ _).mono ?_; rintro e w' ⟨rfl, rfl⟩)
    go_ret
    exact ⟨rfl, B6.out⟩

set_option maxRecDepth 100000 in
theorem lifted (os : Os) (started : os.Started) (H : Type) (enc : TypeId × Value → H) :
    ReturnsInHanded {} Try.checked os 5 .any (Rows.sfdpFormsSpec.pre6 enc Try.prog Try.f5 Rows.sfdpFormsRow.domain false) (Rows.sfdpFormsSpec.post enc Try.prog Try.f5 false true false false) := by
  refine returnsInHanded_of_change (C := Try.checked) own started (by kernel_rfl) Try.func5
    (ChangeSpec.witness6 (enc := enc) (C := Try.checked) false ⟨#[], #[.int .i64 0, .int .i64 0], []⟩ 8 (by kernel_rfl) (by kernel_rfl) (by kernel_rfl) (by kernel_rfl)) ?_
  intro W base args ds gs before hval0 hW hcnd _
  have hval : ∀ (j : Nat) t v, Try.f5.params[j]? = some t → args[j]? = some v → Value.okWide Try.prog W .any base t v := hval0
  have hW' := hW
  obtain ⟨p, q, hA0, hV, rfl, hfz, hnd⟩ := hW
  have hA : DataW.TrodAll enc Try.prog W 0 (fun _ => true) true Try.f5.params.toList args.toList ds p := hA0
  rw [Try.params5] at hA hval
  obtain ⟨v0, vs0, d0, ds0, p0, q0, hargs, rfl, rfl, h0, r0⟩ := trodAll_cons hA
  obtain ⟨v1, vs1, d1, ds1, p1, q1, rfl, rfl, rfl, h1, r1⟩ := trodAll_cons r0
  obtain ⟨rfl, rfl, rfl⟩ := trodAll_nil r1
  obtain rfl : args = #[v0, v1] := by cases args; simp_all
  obtain ⟨rfl, rfl⟩ := trodVars_none hV
  obtain ⟨a0, rfl, rfl, rfl, w0⟩ := open_int Try.underlying3 (hval 0 3 v0 rfl rfl) h0
  obtain ⟨a1, rfl, rfl, rfl, w1⟩ := open_int Try.underlying3 (hval 1 3 v1 rfl rfl) h1
  clear hA0 hval0
  refine (walk a0 a1 W w0 w1).mono fun e W' ⟨he, bel⟩ => ?_
  subst he
  exact ⟨_, rfl, _, _, _, [], _, [], hW', trodAll_mk1 (shut_bool Try.underlying4 _), (trodAll_cons_mk (shut_int Try.underlying3 w0) (trodAll_cons_mk (shut_int Try.underlying3 w1) trodAll_mk0)), rfl, bel.frame _, fun h => by cases h⟩

theorem over : Rows.sfdpFormsRow.holds Try.pinned (OpenSpec.ofChange Rows.sfdpFormsSpec) :=
  OpenClaim.holds_of_wide 5 Try.f5 rfl rfl rfl rfl rfl rfl rfl ⟨rfl, rfl, rfl, rfl, rfl⟩ rfl rfl rfl rfl rfl (by kernel_rfl) Try.func5 (by kernel_rfl)
    (of_decide_eq_true (by kernel_rfl)) (by unfold Func.isWrapper; first | (rw [if_pos (by decide +kernel)]; kernel_rfl) | (rw [if_neg (by decide +kernel)]; exact ⟨rfl, rfl⟩))
    (fun os started H enc _ => lifted os started H enc)

theorem proved : Rows.SfdpFormsSaid := over
#print axioms proved
end Go.Proofs.Ytgibpmjgcjcghaa.sfdpForms
