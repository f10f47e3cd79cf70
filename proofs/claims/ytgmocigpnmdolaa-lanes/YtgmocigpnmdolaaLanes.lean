/-
  The law Lanes holds: any byte, lanes and bits are answered as the document says, and what was lent is as it was; conditions: none beyond what the given row says of every argument.
-/
import Derived.Test.YtgmocigpnmdolaaRows
import Derived.Test.YtgmocigpnmdolaaAwake
import Derived.Test.YtgmocigpnmdolaaRefIn
import Derived.Test.YtgmocigpnmdolaaLend
import Derived.SizedLaws
import Derived.WalkKit
import Derived.ProofKit
import Derived.OpenShut
import Derived.ShutString
import Derived.ChangeOld
import Derived.Below
namespace Go.Proofs.Ytgmocigpnmdolaa.lanes
open Go.ChangeShapes Go.WideShapes Go.ChangeAt Go.RowKit
open Go.ChangeMaps (open_string shut_string)
set_option linter.unusedVariables false

theorem own : ownKnob Try.prog.godebug = none := by kernel_rfl
theorem laidOut : laidOutB Try.prog = true := by kernel_rfl

set_option maxRecDepth 100000 in
set_option maxHeartbeats 2000000 in
theorem walk (a0 : Int) (a1 : Int) (a2 : Option Addr) (len2 cap2 : Nat) (z2 : List Int) (w : World) (w0 : (Lit.int .i64 a0).wf = true) (w1 : (Lit.int .i64 a1).wf = true) (w2 : Came w a2 len2 cap2 z2) (s2 : len2 * 8 ≤ 140737488351232) :
    Calls Try.prog 3 #[.int .i64 a0, .int .i64 a1, .slice a2 len2 cap2] w fun e w' => e = .returned (.bool true) ∧ Below w.heap.size w w' := by
  have hlen : L8 z2 := by rw [L8, w2.1]; exact s2
  have HR : Hid (Reads w (.slice a2 len2 cap2) z2) := w2.reads
  have HC : Hid (Came w a2 len2 cap2 z2) := w2
  have HL : Hid (L8 z2) := hlen
  clear w2 hlen w0 w1
  go_enter Try.func3, Try.ntmps3
  go_wp2_with fail
  refine (lend_any a2 len2 cap2 z2 _ HC.out s2).mono ?_
  rintro e v1 ⟨g, c, rfl, hg0, hg1, hl1, b1⟩
  have l1 : Hid (Lent v1 g len2 c z2) := hl1
  have bel : Hid (Below w.heap.size w v1) := b1
  have hs1 : Hid (w.heap.size ≤ v1.heap.size) := b1.size
  have hg : Hid (g < v1.heap.size) := hg1
  clear hl1 b1 hg0 hg1
  go_wp2_with fail
  refine (out_any a0 a1 _).mono ?_
  rintro e v2 ⟨p, rfl, o2, b2⟩
  go_wp2_with fail
  refine (refOut_any a0 a1 _).mono ?_
  rintro e v3 ⟨q, rfl, o3, b3⟩
  obtain ⟨M, hM⟩ : ∃ M, M = outL a0 a1 := ⟨_, rfl⟩
  obtain ⟨n1, hn1⟩ : ∃ n, n = outE a0 a1 := ⟨_, rfl⟩
  have hM8 : L8 M := by rw [hM]; exact outL_short a0 a1
  rw [← hM] at o2 o3
  rw [← hn1]
  have O2 : Hid (Owns v1.heap.size v3 p M) := o2.below b3 (Nat.le_refl _)
  have R3 : Hid (Reads v3 q M) := o3.reads
  have l3 : Hid (Lent v3 g len2 c z2) := (l1.out.below b2 hg.out).below b3 (Nat.lt_of_lt_of_le hg.out b2.size)
  have bel : Hid (Below w.heap.size w v3) := below_then (below_then bel.out b2) b3
  have hs3 : Hid (v1.heap.size ≤ v3.heap.size) := Nat.le_trans b2.size b3.size
  clear o2 o3 b2 b3 l1 hM hn1
  go_wp2_with fail
  refine (in_any _ z2 a1 _ l3.out.reads HL.out).mono ?_
  rintro e v4 ⟨rfl, b4⟩
  have bel4 : Hid (Below w.heap.size w v4) := below_then bel.out b4
  go_wp2_with fail
  refine (refIn_any _ z2 a1 _ (HR.out.below bel4.out) HL.out).mono ?_
  rintro e v5 ⟨rfl, b5⟩
  obtain ⟨x, hx⟩ : ∃ x, x = inV z2 a1 := ⟨_, rfl⟩
  obtain ⟨n2, hn2⟩ : ∃ n, n = inE z2 a1 := ⟨_, rfl⟩
  rw [← hx, ← hn2]
  have b35 : Hid (Below v3.heap.size v3 v5) := below_then b4 b5
  have bel : Hid (Below w.heap.size w v5) := below_then bel.out b35.out
  clear b4 b5 hx hn2 bel4
  go_wp2_with fail
  refine (same_any p q M M _ ((O2.out.below b35.out (Nat.le_refl _)).reads) (R3.out.below b35.out) hM8 hM8).mono ?_
  rintro e v6 ⟨rfl, b6⟩
  rw [show decide (M = M) = true from by simp]
  have b36 : Hid (Below v3.heap.size v3 v6) := below_then b35.out b6
  have bel : Hid (Below w.heap.size w v6) := below_then bel.out b6
  clear b6 b35
  go_wp2_with (go_at_call 14; refine (num_any _ _).mono ?_; rintro e w' ⟨rfl, rfl⟩)
  refine (spoil_any v1.heap.size p M _ (O2.out.below b36.out (Nat.le_refl _)) hM8).mono ?_
  rintro e v7 ⟨rfl, b7⟩
  have l7 : Hid (Lent v7 g len2 c z2) := (l3.out.below b36.out (Nat.lt_of_lt_of_le hg.out hs3.out)).below b7 hg.out
  have bel : Hid (Below w.heap.size w v7) := bel.out.trans (b7.mono hs1.out)
  clear b7 b36
  go_wp2_with fail
  refine (kept_any a2 g len2 c cap2 z2 _ l7.out (HR.out.below bel.out) s2).mono ?_
  rintro e v8 ⟨rfl, b8⟩
  have bel : Hid (Below w.heap.size w v8) := below_then bel.out b8
  clear b8
  go_wp2_with fail
  refine (awake_any _).mono ?_
  rintro e v9 ⟨rfl, b9⟩
  have bel : Hid (Below w.heap.size w v9) := below_then bel.out b9
  clear b9
  go_wp2_with fail
  go_ret
  exact ⟨rfl, bel.out⟩

set_option maxRecDepth 100000 in
theorem lifted (os : Os) (started : os.Started) (H : Type) (enc : TypeId × Value → H) :
    ReturnsInHanded {} Try.checked os 3 .any (Rows.lanesSpec.pre6 enc Try.prog Try.f3 Rows.lanesRow.domain false) (Rows.lanesSpec.post enc Try.prog Try.f3 false true false false) := by
  refine returnsInHanded_of_change_sized (C := Try.checked) own started (by kernel_rfl) Try.func3
    (ChangeSpec.witness6 (enc := enc) (C := Try.checked) false ⟨#[], #[.int .i64 0, .int .i64 0, .slice none 0 0], []⟩ 8 (by kernel_rfl) (by kernel_rfl) (by kernel_rfl) (by kernel_rfl)) ?_
  intro W base args ds gs before hval0 hW hcnd hsz0 _
  have hsz : (DataW.weightsEach Try.prog (Try.f3.params.toList ++ Rows.lanesSpec.plain.varTypes Try.prog) (ds ++ gs)).all (· ≤ reachBytes) = true := hsz0
  clear hsz0
  have hval : ∀ (j : Nat) t v, Try.f3.params[j]? = some t → args[j]? = some v → Value.okWide Try.prog W .any base t v := hval0
  have hW' := hW
  obtain ⟨p, q, hA0, hV, rfl, hfz, hnd⟩ := hW
  have hA : DataW.TrodAll enc Try.prog W 0 (fun _ => true) true Try.f3.params.toList args.toList ds p := hA0
  rw [Try.params3] at hA hval hsz
  obtain ⟨v0, vs0, d0, ds0, p0, q0, hargs, rfl, rfl, h0, r0⟩ := trodAll_cons hA
  obtain ⟨v1, vs1, d1, ds1, p1, q1, rfl, rfl, rfl, h1, r1⟩ := trodAll_cons r0
  obtain ⟨v2, vs2, d2, ds2, p2, q2, rfl, rfl, rfl, h2, r2⟩ := trodAll_cons r1
  obtain ⟨rfl, rfl, rfl⟩ := trodAll_nil r2
  obtain rfl : args = #[v0, v1, v2] := by cases args; simp_all
  obtain ⟨rfl, rfl⟩ := trodVars_none hV
  obtain ⟨a0, rfl, rfl, rfl, w0⟩ := open_int Try.underlying3 (hval 0 3 v0 rfl rfl) h0
  obtain ⟨a1, rfl, rfl, rfl, w1⟩ := open_int Try.underlying3 (hval 1 3 v1 rfl rfl) h1
  obtain ⟨a2, len2, cap2, rfl⟩ := okWide_slice Try.underlying22 (hval 2 22 v2 rfl rfl)
  have k2 := h2
  have lt2 : ∀ x ∈ p2, x.block < W.heap.size := by obtain ⟨m, hm⟩ := k2; exact DataW.trod_lt m _ _ _ hm
  obtain ⟨z2, w2, s2⟩ : ∃ zs, Came W a2 len2 cap2 zs ∧ len2 * 8 ≤ 140737488351232 := by
    obtain ⟨fuel, hf⟩ := h2
    rcases open_ints Try.underlying22 Try.underlying3 (by kernel_rfl) hf with ⟨hcs, _⟩ | ⟨x, l, c, zs, hcs, _, hl, hm, hz, hx, hcell, hwz⟩
    · simp [Value.cells] at hcs
      obtain ⟨rfl, rfl, rfl⟩ := hcs
      exact ⟨[], ⟨rfl, .inl ⟨rfl, rfl, rfl⟩⟩, by omega⟩
    · simp [Value.cells] at hcs
      obtain ⟨rfl, rfl, rfl⟩ := hcs
      simp only [Prod.mk.injEq] at hx
      obtain ⟨rfl, -⟩ := hx
      have hzl : zs.length = cap2 := by simpa using hz
      have hreach := sized_slice hsz (j := 2) (t := 22) (e := 3) rfl rfl Try.underlying22
      rw [show Try.prog.bytesOf 3 = 8 from by kernel_rfl] at hreach
      simp only [lits, List.length_map, List.length_take, List.length_drop, reachBytes] at hreach
      exact ⟨zs.take len2, came_of hl hzl hcell, by omega⟩
  clear hA0 hval0
  refine (walk a0 a1 a2 len2 cap2 z2 W w0 w1 w2 s2).mono fun e W' ⟨he, bel⟩ => ?_
  subst he
  exact ⟨_, rfl, _, _, _, [], _, [], hW', trodAll_mk1 (shut_bool Try.underlying4 _), (trodAll_cons_mk (shut_int Try.underlying3 w0) (trodAll_cons_mk (shut_int Try.underlying3 w1) (trodAll_cons_mk (Below.trod laidOut (by kernel_rfl) (of_decide_eq_true (by kernel_rfl)) k2 bel lt2) trodAll_mk0))), rfl, bel.frame _, fun h => by cases h⟩

theorem over : Rows.lanesRow.holds Try.pinned (OpenSpec.ofChange Rows.lanesSpec) :=
  OpenClaim.holds_of_wide 3 Try.f3 rfl rfl rfl rfl rfl rfl rfl ⟨rfl, rfl, rfl, rfl, rfl⟩ rfl rfl rfl rfl rfl (by kernel_rfl) Try.func3 (by kernel_rfl)
    (of_decide_eq_true (by kernel_rfl)) (by unfold Func.isWrapper; first | (rw [if_pos (by decide +kernel)]; kernel_rfl) | (rw [if_neg (by decide +kernel)]; exact ⟨rfl, rfl⟩))
    (fun os started H enc _ => lifted os started H enc)

theorem proved : Rows.LanesSaid := over
#print axioms proved
end Go.Proofs.Ytgmocigpnmdolaa.lanes
