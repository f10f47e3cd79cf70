/-
  FifoTurns: what goes in comes out in its row, however pushes and pops take turns. No conditions.
-/
import Derived.Test.YtkmhcihkdpdmoaaRows
import Derived.Test.YtkmhcihkdpdmoaaAwake
import Derived.Test.YtkmhcihkdpdmoaaCame
import Derived.WalkKit
import Derived.ProofKit
import Derived.OpenShut
import Derived.ShutString
import Derived.ChangeOld
import Derived.Below
namespace Go.Proofs.Ytkmhcihkdpdmoaa.fifoTurns
open Go.ChangeShapes Go.WideShapes Go.ChangeAt Go.RowKit
open Go.ChangeMaps (open_string shut_string)
set_option linter.unusedVariables false

theorem own : ownKnob Try.prog.godebug = none := by kernel_rfl
theorem laidOut : laidOutB Try.prog = true := by kernel_rfl

/-- WHAT THE WALK IS TOLD OF A SLICE OF INTEGERS THAT CAME IN: it is nil; or it leads to a row of 'cap' cells, the numbers 'zs' (the first 'len' are its elements, the rest its spare room), each fitting its kind. -/
def IsRow (k : IntKind) (w : World) (a : Option Addr) (len cap : Nat) (zs : List Int) : Prop :=
  (a = none ∧ len = 0 ∧ cap = 0 ∧ zs = []) ∨
  ∃ x, a = some x ∧ len ≤ cap ∧ cap ≤ maxLen ∧ zs.length = cap ∧ (∀ i, i < zs.length → w.cell? (x.add i) = some (.int k (zs.getD i 0))) ∧ ∀ n ∈ zs, (Lit.int k n).wf = true

set_option maxRecDepth 100000 in
set_option maxHeartbeats 2000000 in
theorem walk (a0 : Option Addr) (len0 cap0 : Nat) (z0 : List Int) (w : World) (w0 : IsRow .i64 w a0 len0 cap0 z0) :
    Calls Try.prog 5 #[.slice a0 len0 cap0] w fun e w' => e = .returned (.bool true) ∧ Below w.heap.size w w' := by
  obtain ⟨L, HC⟩ : ∃ L, Hid (Came w a0 len0 cap0 L) := by
    rcases w0 with ⟨rfl, rfl, rfl, rfl⟩ | ⟨x, rfl, h1, h2, h3, h4, h5⟩
    · exact ⟨[], rfl, .inl ⟨rfl, rfl, rfl⟩⟩
    · exact ⟨_, came_of h1 h3 h4⟩
  clear w0
  have HCm : Hid (Reads w (.slice a0 len0 cap0) L) := HC.out.reads
  have HZl : Hid (L.length = len0) := HC.out.1
  clear HC
  go_enter Try.func5, Try.ntmps5
  go_wp2_with fail
  refine (awake_any _).mono ?_
  rintro e u1 ⟨rfl, b1⟩
  have B1 : Hid (Below w.heap.size w u1) := b1
  clear b1
  go_wp2_with fail
  refine (run_new _).mono ?_
  rintro e u2 ⟨b, rfl, hb, r2⟩
  go_wp2_with fail
  go_loopw [4, 5, 6] (fun c d i wr => ∃ j p q : Nat, j ≤ len0 ∧ j ≤ 100 ∧ p ≤ j ∧ q ≤ p ∧ p - q ≤ 16 ∧ c = .int .i64 p ∧ d = .int .i64 q ∧ i = .int .i64 j ∧ Hid (Run b u1 wr (upto q p))) (fun _ _ i _ => (len0 - intOf i).toNat)
  case atStart => exact ⟨0, 0, 0, by omega, by omega, by omega, by omega, by omega, rfl, rfl, rfl, r2⟩
  case round =>
    obtain ⟨j, p, q, hj1, hj2, hp, hq, hpq, rfl, rfl, rfl, HR⟩ := hrel
    clear r2
    by_cases hlt : j < len0 ∧ j < 100
    · obtain ⟨hlt1, hlt2⟩ := hlt
      obtain ⟨x, Hx⟩ : ∃ x, Hid (L.getD j 0 = x) := ⟨_, rfl⟩
      obtain ⟨c0, cap, e0, hread⟩ := HCm.out
      rw [HZl.out] at hread
      obtain ⟨ga, oa, e1, hcell⟩ := hread (by omega)
      simp only [Value.slice.injEq] at e0
      obtain ⟨rfl, -, rfl⟩ := e0
      subst e1
      have hwv : Below w.heap.size w wr := B1.out.trans (run_old HR (Nat.le_trans B1.out.size hb) B1.out.size)
      have ca : wr.cell? ⟨ga, oa + j, none⟩ = some (.int .i64 x) := by rw [← Hx.out, hwv.cell (cell_lt (hcell j (by omega)))]; exact hcell j (by omega)
      clear hread hcell hwv Hx HCm HZl
      by_cases hz : 0 < bits BinOp.and IntKind.i64 x 3
      · by_cases h16 : p - q < 16
        · have HE := upto_push hq h16
          have HLn : Hid ((upto q (p + 1)).length = p + 1 - q) := upto_length _ _
          have hd : (p : Int) - q < 16 := by omega
          have he : ((p + 1 - q : Nat) : Int) = (p : Int) + 1 - q := by omega
          have HE : Hid (pushE (upto q p) = 0 ∧ pushL (upto q p) (p : Int) = upto q (p + 1)) := HE
          go_wp2_with fail
          refine (run_push b u1 _ (p : Int) _ HR).mono ?_
          rintro e w2 ⟨rfl, r3⟩
          rw [HE.out.2] at r3
          rw [HE.out.1]
          clear HR HE ca
          go_wp2_with (first | (go_at_call 9; refine (num_any _ _).mono ?_; rintro e w' ⟨rfl, rfl⟩) | (go_at_call 12; refine (run_len b u1 _ _ r3).mono ?_; rintro e w' ⟨rfl, rfl⟩; rw [HLn.out, he]))
          go_roundw
          case rel => exact ⟨j + 1, p + 1, q, by omega, by omega, by omega, by omega, by omega, by go_num, by go_num, by go_num, r3⟩
          case measure => simp [intOf]; omega
        · have HE : Hid (pushE (upto q p) = 801 ∧ pushL (upto q p) (p : Int) = upto q p) := upto_full h16
          have HLn : Hid ((upto q p).length = p - q) := upto_length _ _
          have hd : decide ((p : Int) - q < 16) = false := decide_eq_false (by omega)
          have he : ((p - q : Nat) : Int) = (p : Int) - q := by omega
          go_wp2_with fail
          refine (run_push b u1 _ (p : Int) _ HR).mono ?_
          rintro e w2 ⟨rfl, r3⟩
          rw [HE.out.2] at r3
          rw [HE.out.1]
          clear HR HE ca
          go_wp2_with (first | (go_at_call 9; refine (num_any _ _).mono ?_; rintro e w' ⟨rfl, rfl⟩) | (go_at_call 12; refine (run_len b u1 _ _ r3).mono ?_; rintro e w' ⟨rfl, rfl⟩; rw [HLn.out, he]))
          go_roundw
          case rel => exact ⟨j + 1, p, q, by omega, by omega, by omega, by omega, by omega, by go_num, by go_num, by go_num, r3⟩
          case measure => simp [intOf]; omega
      · have hzd : decide (0 < bits BinOp.and IntKind.i64 x 3) = false := decide_eq_false hz
        by_cases hpq2 : q < p
        · have HE : Hid (popE (upto q p) = 0 ∧ popV (upto q p) = (q : Int) ∧ popL (upto q p) = upto (q + 1) p) := upto_pop hpq2
          have HLn : Hid ((upto (q + 1) p).length = p - (q + 1)) := upto_length _ _
          have he : ((p - (q + 1) : Nat) : Int) = (p : Int) - ((q : Int) + 1) := by omega
          go_wp2_with fail
          refine (run_pop b u1 _ _ HR).mono ?_
          rintro e w2 ⟨rfl, r3⟩
          rw [HE.out.2.2] at r3
          rw [HE.out.1, HE.out.2.1]
          clear HR HE ca hz hzd
          go_wp2_with (first | (go_at_call 9; refine (num_any _ _).mono ?_; rintro e w' ⟨rfl, rfl⟩) | (go_at_call 12; refine (run_len b u1 _ _ r3).mono ?_; rintro e w' ⟨rfl, rfl⟩; rw [HLn.out, he]))
          go_roundw
          case rel => exact ⟨j + 1, p, q + 1, by omega, by omega, by omega, by omega, by omega, by go_num, by go_num, by go_num, r3⟩
          case measure => simp [intOf]; omega
        · obtain rfl : q = p := by omega
          have HE : Hid (popE (upto q q) = 800 ∧ popV (upto q q) = 0 ∧ popL (upto q q) = upto q q) := by rw [upto_none]; exact ⟨rfl, rfl, rfl⟩
          have HLn : Hid ((upto q q).length = 0) := by rw [upto_none]; rfl
          go_wp2_with fail
          refine (run_pop b u1 _ _ HR).mono ?_
          rintro e w2 ⟨rfl, r3⟩
          rw [HE.out.2.2] at r3
          rw [HE.out.1, HE.out.2.1]
          clear HR HE ca hz hzd
          go_wp2_with (first | (go_at_call 9; refine (num_any _ _).mono ?_; rintro e w' ⟨rfl, rfl⟩) | (go_at_call 12; refine (run_len b u1 _ _ r3).mono ?_; rintro e w' ⟨rfl, rfl⟩; rw [HLn.out]))
          go_roundw
          case rel => exact ⟨j + 1, q, q, by omega, by omega, by omega, by omega, by omega, by go_num, by go_num, by go_num, r3⟩
          case measure => simp [intOf]; omega
    · rcases (show len0 ≤ j ∨ (j < len0 ∧ 100 ≤ j) by omega) with hge | ⟨hlt1, hge⟩
      · have hd : decide ((j : Int) < len0) = false := decide_eq_false (by omega)
        go_wp2
        go_ret
        exact ⟨rfl, B1.out.trans (run_old HR (Nat.le_trans B1.out.size hb) B1.out.size)⟩
      · have hd : decide ((j : Int) < 100) = false := decide_eq_false (by omega)
        go_wp2
        go_ret
        exact ⟨rfl, B1.out.trans (run_old HR (Nat.le_trans B1.out.size hb) B1.out.size)⟩

set_option maxRecDepth 100000 in
theorem lifted (os : Os) (started : os.Started) (H : Type) (enc : TypeId × Value → H) :
    ReturnsInHanded {} Try.checked os 5 .any (Rows.fifoTurnsSpec.pre6 enc Try.prog Try.f5 Rows.fifoTurnsRow.domain false) (Rows.fifoTurnsSpec.post enc Try.prog Try.f5 false true false false) := by
  refine returnsInHanded_of_change (C := Try.checked) own started (by kernel_rfl) Try.func5
    (ChangeSpec.witness6 (enc := enc) (C := Try.checked) false ⟨#[], #[.slice none 0 0], []⟩ 8 (by kernel_rfl) (by kernel_rfl) (by kernel_rfl) (by kernel_rfl)) ?_
  intro W base args ds gs before hval0 hW hcnd _
  have hval : ∀ (j : Nat) t v, Try.f5.params[j]? = some t → args[j]? = some v → Value.okWide Try.prog W .any base t v := hval0
  have hW' := hW
  obtain ⟨p, q, hA0, hV, rfl, hfz, hnd⟩ := hW
  have hA : DataW.TrodAll enc Try.prog W 0 (fun _ => true) true Try.f5.params.toList args.toList ds p := hA0
  rw [Try.params5] at hA hval
  obtain ⟨v0, vs0, d0, ds0, p0, q0, hargs, rfl, rfl, h0, r0⟩ := trodAll_cons hA
  obtain ⟨rfl, rfl, rfl⟩ := trodAll_nil r0
  obtain rfl : args = #[v0] := by cases args; simp_all
  obtain ⟨rfl, rfl⟩ := trodVars_none hV
  obtain ⟨a0, len0, cap0, rfl⟩ := okWide_slice Try.underlying22 (hval 0 22 v0 rfl rfl)
  have k0 := h0
  have lt0 : ∀ x ∈ p0, x.block < W.heap.size := by obtain ⟨m, hm⟩ := k0; exact DataW.trod_lt m _ _ _ hm
  obtain ⟨z0, w0⟩ : ∃ zs, IsRow .i64 W a0 len0 cap0 zs := by
    obtain ⟨fuel, hf⟩ := h0
    rcases open_ints Try.underlying22 Try.underlying3 (by kernel_rfl) hf with ⟨hcs, _⟩ | ⟨x, l, c, zs, hcs, _, hl, hm, hz, _, hcell, hwz⟩
    · simp [Value.cells] at hcs
      obtain ⟨rfl, rfl, rfl⟩ := hcs
      exact ⟨[], .inl ⟨rfl, rfl, rfl, rfl⟩⟩
    · simp [Value.cells] at hcs
      obtain ⟨rfl, rfl, rfl⟩ := hcs
      exact ⟨zs, .inr ⟨_, rfl, hl, hm, by simpa using hz, hcell, hwz⟩⟩
  clear hA0 hval0
  refine (walk a0 len0 cap0 z0 W w0).mono fun e W' ⟨he, bel⟩ => ?_
  subst he
  exact ⟨_, rfl, _, _, _, [], _, [], hW', trodAll_mk1 (shut_bool Try.underlying4 _), (trodAll_cons_mk (Below.trod laidOut (by kernel_rfl) (of_decide_eq_true (by kernel_rfl)) k0 bel lt0) trodAll_mk0), rfl, bel.frame _, fun h => by cases h⟩

theorem over : Rows.fifoTurnsRow.holds Try.pinned (OpenSpec.ofChange Rows.fifoTurnsSpec) :=
  OpenClaim.holds_of_wide 5 Try.f5 rfl rfl rfl rfl rfl rfl rfl ⟨rfl, rfl, rfl, rfl, rfl⟩ rfl rfl rfl rfl rfl (by kernel_rfl) Try.func5 (by kernel_rfl)
    (of_decide_eq_true (by kernel_rfl)) (by unfold Func.isWrapper; first | (rw [if_pos (by decide +kernel)]; kernel_rfl) | (rw [if_neg (by decide +kernel)]; exact ⟨rfl, rfl⟩))
    (fun os started H enc _ => lifted os started H enc)

theorem proved : Rows.FifoTurnsSaid := over
#print axioms proved
end Go.Proofs.Ytkmhcihkdpdmoaa.fifoTurns
