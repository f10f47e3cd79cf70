/-
  The law PairBits holds: each bit that a slot has, turned, makes it none; conditions: none beyond what the given row says of every argument.
-/
import Derived.Test.YtobagompnllmkaaRows
import Derived.Test.YtobagompnllmkaaTurns
import Derived.Deep.RegionHeld3
import Derived.Deep.DrawnRows
import Derived.WalkKit
import Derived.ProofKit
import Derived.OpenShut
import Derived.ShutString
import Derived.ChangeOld
import Derived.Below
namespace Go.Proofs.Ytobagompnllmkaa.pairBits
open Go.Proofs.Ytobagompnllmkaa.Plain
open Go.ChangeShapes Go.WideShapes Go.ChangeAt Go.RowKit
open Go.ChangeMaps (open_string shut_string)
set_option linter.unusedVariables false

theorem own : ownKnob Try.prog.godebug = none := by kernel_rfl
theorem laidOut : laidOutB Try.prog = true := by kernel_rfl

set_option maxRecDepth 100000 in
set_option maxHeartbeats 2000000 in
theorem walk (a0 : ByteArray) (a1 : Int) (w : World) (w0 : a0.size ≤ maxLen) (w1 : (Lit.int .i64 a1).wf = true) :
    Calls Try.prog 5 #[.string a0, .int .i64 a1] w fun e w' => e = .returned (.bool true) ∧ Below w.heap.size w w' := by
  obtain ⟨K, hK, eK⟩ := umod a1 512 (by omega) (by omega)
  have eK' : wrap64 ((IntKind.u64.wrap a1).tmod 512) = (K : Int) := eK
  clear eK w1
  go_enter Try.func5, Try.ntmps5
  go_wp2_with fail
  refine (awake_any _).mono ?_
  rintro e v1 ⟨rfl, b1⟩
  go_wp2_with fail
  refine (text_gives _ 32 _ w0 (by omega)).mono ?_
  rintro e v2 ⟨X, rfl, HX, SX, b2⟩
  go_wp2_with fail
  refine (put_gives _ _ SX.out).mono ?_
  rintro e v3 ⟨T, rfl, HT, ST, b3⟩
  have sT := ST.out
  obtain ⟨W1, cap, hcv, hcap, hby, hbel, hsz⟩ := to_bytes_of v3 T 64 ST.out
  go_wp2_with (go_at_call 13; refine (num_any _ _).mono ?_; rintro e w' ⟨rfl, rfl⟩)
  rw [eK']
  have hc := (hby (K / 8) (by omega)).1
  have hf := (hby (K / 8) (by omega)).2
  have i1 : (0 : Int) ≤ (K : Int) / 8 := by omega
  have i2 : (K : Int) / 8 < 64 := by omega
  have i4 : ((K : Int) / 8).toNat = K / 8 := by omega
  have i7 : (0 : Int) ≤ (K : Int) % 8 := by omega
  have i8 : ((K : Int) % 8).toNat = K % 8 := by omega
  have HB : Hid (Bytes W1 v3.heap.size 64 _) := hby
  have HL : Hid (Below v3.heap.size v3 W1) := hbel
  clear hby hbel hcv
  go_region
  obtain ⟨b, hb0, hbx⟩ := turned_is (ub T (K / 8)) (K % 8) (by omega)
  rw [hbx]
  obtain ⟨W2, hW2⟩ : ∃ W2, W2 = (W1.setCell ⟨v3.heap.size, K / 8, none⟩ (.int .u8 ((ub T (K / 8) ^^^ b).toNat : Int))).drew := ⟨_, rfl⟩
  rw [← hW2]
  have hby2 : Bytes W2 v3.heap.size 64 (fun j => if j = K / 8 then ub T (K / 8) ^^^ b else ub T j) := by rw [hW2]; exact (HB.out.set (K / 8) (by omega) (ub T (K / 8) ^^^ b)).drew
  obtain ⟨R, hbk, HR⟩ := hby2.back_is (f' := fun j => if j = K / 8 then ub T (K / 8) ^^^ b else ub T j) (fun j hj => rfl) cap
  have HG : Hid (getB R = false) := one_turned (i := K / 8) (x := X) (by omega) hb0 (by rw [HR.out, HT.out])
  have SR : Hid (R.size ≤ maxLen) := by rw [Hid, HR.out, tab_size]; unfold maxLen; omega
  have bel : Hid (Below w.heap.size w W2) := below_then (below_then (below_then b1 b2) b3) (by rw [hW2]; exact (HL.out.setCell (Nat.le_refl _) _).drew)
  clear hc hf i1 i2 i4 i7 i8 HB HL hbx hb0 b1 b2 b3 HR hW2 hby2
  go_wp2_with fail
  refine (get_any _ _ SR.out).mono ?_
  rintro e v5 ⟨Z, n, rfl, HZ, N1, b5⟩
  obtain rfl : n = 200 := N1.out.trans (getN_no HG.out)
  obtain rfl : Z = ⟨#[]⟩ := HZ.out.trans (getS_no HG.out)
  go_wp2_with fail
  refine (get_gives X T _ SX.out HT.out).mono ?_
  rintro e v6 ⟨rfl, b6⟩
  have bel2 : Hid (Below w.heap.size w v6) := below_then (below_then bel.out b5) b6
  clear bel b5 b6 HZ N1 HG SR HX HT SX ST
  go_wp2_with (go_at_call 13; refine (num_any _ _).mono ?_; rintro e w' ⟨rfl, rfl⟩)
  go_ret
  exact ⟨rfl, bel2.out⟩

set_option maxRecDepth 100000 in
theorem lifted (os : Os) (started : os.Started) (H : Type) (enc : TypeId × Value → H) :
    ReturnsInHanded {} Try.checked os 5 .any (Rows.pairBitsSpec.pre6 enc Try.prog Try.f5 Rows.pairBitsRow.domain false) (Rows.pairBitsSpec.post enc Try.prog Try.f5 false true false false) := by
  refine returnsInHanded_of_change (C := Try.checked) own started (by kernel_rfl) Try.func5
    (ChangeSpec.witness6 (enc := enc) (C := Try.checked) false ⟨#[], #[.string ByteArray.empty, .int .i64 0], []⟩ 8 (by kernel_rfl) (by kernel_rfl) (by kernel_rfl) (by kernel_rfl)) ?_
  intro W base args ds gs before hval0 hW hcnd _
  have hval : ∀ (j : Nat) t v, Try.f5.params[j]? = some t → args[j]? = some v → Value.okWide Try.prog W .any base t v := hval0
  have hW' := hW
  obtain ⟨p, q, hA0, hV, rfl, hfz, hnd⟩ := hW
  have hA : DataW.TrodAll enc Try.prog W 0 (fun _ => true) true Try.f5.params.toList args.toList ds p := hA0
  rw [Try.params5] at hA hval
  obtain ⟨v0, vs0, d0, ds0, p0, q0, hargs, rfl, rfl, h0, r0⟩ := trodAll_cons hA
  obtain ⟨v1, vs1, d1, ds1, p1, q1, rfl, rfl, rfl, h1, r1⟩ := trodAll_cons r0
  obtain ⟨rfl, rfl, rfl⟩ := trodAll_nil r1
  obtain rfl : args = #[v0, v1] := by cases args; simp_all
  obtain ⟨rfl, rfl⟩ := trodVars_none hV
  obtain ⟨a0, rfl, rfl, rfl, w0⟩ := open_string Try.underlying9 (hval 0 9 v0 rfl rfl) h0
  obtain ⟨a1, rfl, rfl, rfl, w1⟩ := open_int Try.underlying3 (hval 1 3 v1 rfl rfl) h1
  clear hA0 hval0
  refine (walk a0 a1 W w0 w1).mono fun e W' ⟨he, bel⟩ => ?_
  subst he
  exact ⟨_, rfl, _, _, _, [], _, [], hW', trodAll_mk1 (shut_bool Try.underlying4 _), (trodAll_cons_mk (shut_string Try.underlying9 w0) (trodAll_cons_mk (shut_int Try.underlying3 w1) trodAll_mk0)), rfl, bel.frame _, fun h => by cases h⟩

theorem over : Rows.pairBitsRow.holds Try.pinned (OpenSpec.ofChange Rows.pairBitsSpec) :=
  OpenClaim.holds_of_wide 5 Try.f5 rfl rfl rfl rfl rfl rfl rfl ⟨rfl, rfl, rfl, rfl, rfl⟩ rfl rfl rfl rfl rfl (by kernel_rfl) Try.func5 (by kernel_rfl)
    (of_decide_eq_true (by kernel_rfl)) (by unfold Func.isWrapper; first | (rw [if_pos (by decide +kernel)]; kernel_rfl) | (rw [if_neg (by decide +kernel)]; exact ⟨rfl, rfl⟩))
    (fun os started H enc _ => lifted os started H enc)

theorem proved : Rows.PairBitsSaid := over
#print axioms proved
end Go.Proofs.Ytobagompnllmkaa.pairBits
