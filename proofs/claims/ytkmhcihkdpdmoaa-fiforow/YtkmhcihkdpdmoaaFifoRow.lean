/-
  FifoRow: what goes in first comes out first, and there is room for just as many as may be. No conditions.
-/
import Derived.Test.YtkmhcihkdpdmoaaRows
import Derived.Test.YtkmhcihkdpdmoaaAwake
import Derived.Test.YtkmhcihkdpdmoaaCame
import Derived.WalkKit
import Derived.ProofKit
import Derived.OpenShut
import Derived.ShutString
import Derived.ChangeOld
import Derived.Below
namespace Go.Proofs.Ytkmhcihkdpdmoaa.fifoRow
open Go.ChangeShapes Go.WideShapes Go.ChangeAt Go.RowKit
open Go.ChangeMaps (open_string shut_string)
set_option linter.unusedVariables false

theorem own : ownKnob Try.prog.godebug = none := by kernel_rfl
theorem laidOut : laidOutB Try.prog = true := by kernel_rfl

/-- WHAT THE WALK IS TOLD OF A SLICE OF INTEGERS THAT CAME IN: it is nil; or it leads to a row of 'cap' cells, the numbers 'zs' (the first 'len' are its elements, the rest its spare room), each fitting its kind. -/
def IsRow (k : IntKind) (w : World) (a : Option Addr) (len cap : Nat) (zs : List Int) : Prop :=
  (a = none ∧ len = 0 ∧ cap = 0 ∧ zs = []) ∨
  ∃ x, a = some x ∧ len ≤ cap ∧ cap ≤ maxLen ∧ zs.length = cap ∧ (∀ i, i < zs.length → w.cell? (x.add i) = some (.int k (zs.getD i 0))) ∧ ∀ n ∈ zs, (Lit.int k n).wf = true

set_option maxRecDepth 100000 in
set_option maxHeartbeats 2000000 in
theorem walk (a0 : Option Addr) (len0 cap0 : Nat) (z0 : List Int) (a1 : Int) (w : World) (w0 : IsRow .i64 w a0 len0 cap0 z0) (w1 : (Lit.int .i64 a1).wf = true) :
    Calls Try.prog 4 #[.slice a0 len0 cap0, .int .i64 a1] w fun e w' => e = .returned (.bool true) ∧ Below w.heap.size w w' := by
  obtain ⟨L, HC⟩ : ∃ L, Hid (Came w a0 len0 cap0 L) := by
    rcases w0 with ⟨rfl, rfl, rfl, rfl⟩ | ⟨x, rfl, h1, h2, h3, h4, h5⟩
    · exact ⟨[], rfl, .inl ⟨rfl, rfl, rfl⟩⟩
    · exact ⟨_, came_of h1 h3 h4⟩
  clear w0 w1
  have HCm : Hid (Reads w (.slice a0 len0 cap0) L) := HC.out.reads
  have HZl : Hid (L.length = len0) := HC.out.1
  clear HC
  rcases (show len0 < 16 ∨ len0 = 16 ∨ (16 : Int) < len0 by omega) with hlen | hlen | hlen
  · go_enter Try.func4, Try.ntmps4
    go_wp2_with fail
    refine (awake_any _).mono ?_
    rintro e u1 ⟨rfl, b1⟩
    have B1 : Hid (Below w.heap.size w u1) := b1
    clear b1
    go_wp2_with fail
    refine (run_new _).mono ?_
    rintro e u2 ⟨b, rfl, hb, r2⟩
    go_wp2_with fail
    go_loopw [7] (fun i wr => ∃ j : Nat, j ≤ len0 ∧ i = .int .i64 j ∧ Hid (Run b u1 wr (L.take j))) (fun i _ => ((len0 : Int) - intOf i).toNat)
    case atStart => exact ⟨0, by omega, rfl, r2⟩
    case round =>
      obtain ⟨j, hj, rfl, HR⟩ := hrel
      clear r2
      by_cases hjk : j < len0
      · obtain ⟨x, Hx⟩ : ∃ x, Hid (L.getD j 0 = x) := ⟨_, rfl⟩
        obtain ⟨c0, cap, e0, hread⟩ := HCm.out
        rw [HZl.out] at hread
        obtain ⟨ga, oa, e1, hcell⟩ := hread (by omega)
        simp only [Value.slice.injEq] at e0
        obtain ⟨rfl, -, rfl⟩ := e0
        subst e1
        have hwv : Below w.heap.size w wr := B1.out.trans (run_old HR (Nat.le_trans B1.out.size hb) B1.out.size)
        have ca : wr.cell? ⟨ga, oa + j, none⟩ = some (.int .i64 x) := by rw [← Hx.out, hwv.cell (cell_lt (hcell j (by omega)))]; exact hcell j (by omega)
        have HE : Hid (pushE (L.take j) = 0 ∧ pushL (L.take j) x = L.take (j + 1)) := take_push (by rw [HZl.out]; omega) (by omega) Hx.out
        have HLn : Hid ((L.take (j + 1)).length = j + 1) := by rw [Hid, List.length_take, HZl.out]; omega
        clear hread hcell hwv Hx HCm
        go_wp2_with fail
        refine (run_push b u1 _ x _ HR).mono ?_
        rintro e w2 ⟨rfl, r3⟩
        rw [HE.out.2] at r3
        rw [HE.out.1]
        clear HR HE
        go_wp2_with (first | (go_at_call 9; refine (num_any _ _).mono ?_; rintro e w' ⟨rfl, rfl⟩) | (go_at_call 12; refine (run_len b u1 _ _ r3).mono ?_; rintro e w' ⟨rfl, rfl⟩; rw [HLn.out]))
        go_roundw
        case rel => exact ⟨j + 1, by omega, by go_num, r3⟩
        case measure => simp [intOf]; omega
      · have R0 : Hid (Run b u1 wr ((L.take len0).drop 0)) := by rw [show j = len0 by omega] at HR; exact HR
        clear HR hj
        have hjd : decide ((j : Int) < (len0 : Int)) = false := decide_eq_false (by omega)
        have hkd : ((len0 : Int) == 16) = false := beq_eq_false_iff_ne.2 (by omega)
        have R1 := R0
        clear R0
        go_wp2_with fail
        go_loopw [8] (fun i v => ∃ m : Nat, m ≤ len0 ∧ i = .int .i64 m ∧ Hid (Run b u1 v ((L.take len0).drop m))) (fun i _ => ((len0 : Int) - intOf i).toNat)
        case atStart => exact ⟨0, by omega, rfl, R1⟩
        case round =>
          obtain ⟨m, hm, rfl, HR⟩ := hrel
          clear R1
          by_cases hmk : m < len0
          · obtain ⟨x, Hx⟩ : ∃ x, Hid (L.getD m 0 = x) := ⟨_, rfl⟩
            obtain ⟨c0, cap, e0, hread⟩ := HCm.out
            rw [HZl.out] at hread
            obtain ⟨ga, oa, e1, hcell⟩ := hread (by omega)
            simp only [Value.slice.injEq] at e0
            obtain ⟨rfl, -, rfl⟩ := e0
            subst e1
            have HE : Hid (popE ((L.take len0).drop m) = 0 ∧ popV ((L.take len0).drop m) = x ∧ popL ((L.take len0).drop m) = (L.take len0).drop (m + 1)) := drop_pop (by rw [HZl.out]; omega) (by omega) Hx.out
            go_wp2_with fail
            refine (run_pop b u1 _ _ HR).mono ?_
            rintro e w2 ⟨rfl, r3⟩
            rw [HE.out.2.2] at r3
            rw [HE.out.1, HE.out.2.1]
            have hwv : Below w.heap.size w w2 := B1.out.trans (run_old r3 (Nat.le_trans B1.out.size hb) B1.out.size)
            have ca : w2.cell? ⟨ga, oa + m, none⟩ = some (.int .i64 x) := by rw [← Hx.out, hwv.cell (cell_lt (hcell m (by omega)))]; exact hcell m (by omega)
            clear hread hcell hwv Hx HCm HR HE
            go_wp2_with (go_at_call 9; refine (num_any _ _).mono ?_; rintro e w' ⟨rfl, rfl⟩)
            go_roundw
            case rel => exact ⟨m + 1, by omega, by go_num, r3⟩
            case measure => simp [intOf]; omega
          · have R2 : Hid (Run b u1 wr []) := by rw [show m = len0 by omega, drop_take_all] at HR; exact HR
            have hmd : decide ((m : Int) < (len0 : Int)) = false := decide_eq_false (by omega)
            clear HR hm
            go_wp2_with fail
            refine (run_pop b u1 _ _ R2).mono ?_
            rintro e w2 ⟨rfl, r3⟩
            rw [show popE [] = 800 from rfl, show popV [] = 0 from rfl]
            go_wp2_with (first | (go_at_call 9; refine (num_any _ _).mono ?_; rintro e w' ⟨rfl, rfl⟩) | (go_at_call 12; refine (run_len b u1 _ _ r3).mono ?_; rintro e w' ⟨rfl, rfl⟩))
            go_ret
            exact ⟨rfl, B1.out.trans (run_old r3 (Nat.le_trans B1.out.size hb) B1.out.size)⟩
  · subst hlen
    go_enter Try.func4, Try.ntmps4
    go_wp2_with fail
    refine (awake_any _).mono ?_
    rintro e u1 ⟨rfl, b1⟩
    have B1 : Hid (Below w.heap.size w u1) := b1
    clear b1
    go_wp2_with fail
    refine (run_new _).mono ?_
    rintro e u2 ⟨b, rfl, hb, r2⟩
    go_wp2_with fail
    go_loopw [7] (fun i wr => ∃ j : Nat, j ≤ 16 ∧ i = .int .i64 j ∧ Hid (Run b u1 wr (L.take j))) (fun i _ => (16 - intOf i).toNat)
    case atStart => exact ⟨0, by omega, rfl, r2⟩
    case round =>
      obtain ⟨j, hj, rfl, HR⟩ := hrel
      clear r2
      by_cases hjk : j < 16
      · obtain ⟨x, Hx⟩ : ∃ x, Hid (L.getD j 0 = x) := ⟨_, rfl⟩
        obtain ⟨c0, cap, e0, hread⟩ := HCm.out
        rw [HZl.out] at hread
        obtain ⟨ga, oa, e1, hcell⟩ := hread (by omega)
        simp only [Value.slice.injEq] at e0
        obtain ⟨rfl, -, rfl⟩ := e0
        subst e1
        have hwv : Below w.heap.size w wr := B1.out.trans (run_old HR (Nat.le_trans B1.out.size hb) B1.out.size)
        have ca : wr.cell? ⟨ga, oa + j, none⟩ = some (.int .i64 x) := by rw [← Hx.out, hwv.cell (cell_lt (hcell j (by omega)))]; exact hcell j (by omega)
        have HE : Hid (pushE (L.take j) = 0 ∧ pushL (L.take j) x = L.take (j + 1)) := take_push (by rw [HZl.out]; omega) (by omega) Hx.out
        have HLn : Hid ((L.take (j + 1)).length = j + 1) := by rw [Hid, List.length_take, HZl.out]; omega
        clear hread hcell hwv Hx HCm
        go_wp2_with fail
        refine (run_push b u1 _ x _ HR).mono ?_
        rintro e w2 ⟨rfl, r3⟩
        rw [HE.out.2] at r3
        rw [HE.out.1]
        clear HR HE
        go_wp2_with (first | (go_at_call 9; refine (num_any _ _).mono ?_; rintro e w' ⟨rfl, rfl⟩) | (go_at_call 12; refine (run_len b u1 _ _ r3).mono ?_; rintro e w' ⟨rfl, rfl⟩; rw [HLn.out]))
        go_roundw
        case rel => exact ⟨j + 1, by omega, by go_num, r3⟩
        case measure => simp [intOf]; omega
      · have R0 : Hid (Run b u1 wr ((L.take 16).drop 0)) := by rw [show j = 16 by omega] at HR; exact HR
        clear HR hj
        have hjd : decide ((j : Int) < 16) = false := decide_eq_false (by omega)
        have HF : Hid (pushE ((L.take 16).drop 0) = 801 ∧ pushL ((L.take 16).drop 0) a1 = (L.take 16).drop 0) := take_full (by rw [HZl.out]; omega) a1
        go_wp2_with fail
        refine (run_push b u1 _ a1 _ R0).mono ?_
        rintro e w2 ⟨rfl, R1⟩
        rw [HF.out.2] at R1
        rw [HF.out.1]
        clear R0 HF
        go_wp2_with (go_at_call 9; refine (num_any _ _).mono ?_; rintro e w' ⟨rfl, rfl⟩)
        go_loopw [8] (fun i v => ∃ m : Nat, m ≤ 16 ∧ i = .int .i64 m ∧ Hid (Run b u1 v ((L.take 16).drop m))) (fun i _ => (16 - intOf i).toNat)
        case atStart => exact ⟨0, by omega, rfl, R1⟩
        case round =>
          obtain ⟨m, hm, rfl, HR⟩ := hrel
          clear R1
          by_cases hmk : m < 16
          · obtain ⟨x, Hx⟩ : ∃ x, Hid (L.getD m 0 = x) := ⟨_, rfl⟩
            obtain ⟨c0, cap, e0, hread⟩ := HCm.out
            rw [HZl.out] at hread
            obtain ⟨ga, oa, e1, hcell⟩ := hread (by omega)
            simp only [Value.slice.injEq] at e0
            obtain ⟨rfl, -, rfl⟩ := e0
            subst e1
            have HE : Hid (popE ((L.take 16).drop m) = 0 ∧ popV ((L.take 16).drop m) = x ∧ popL ((L.take 16).drop m) = (L.take 16).drop (m + 1)) := drop_pop (by rw [HZl.out]; omega) (by omega) Hx.out
            go_wp2_with fail
            refine (run_pop b u1 _ _ HR).mono ?_
            rintro e w2 ⟨rfl, r3⟩
            rw [HE.out.2.2] at r3
            rw [HE.out.1, HE.out.2.1]
            have hwv : Below w.heap.size w w2 := B1.out.trans (run_old r3 (Nat.le_trans B1.out.size hb) B1.out.size)
            have ca : w2.cell? ⟨ga, oa + m, none⟩ = some (.int .i64 x) := by rw [← Hx.out, hwv.cell (cell_lt (hcell m (by omega)))]; exact hcell m (by omega)
            clear hread hcell hwv Hx HCm HR HE
            go_wp2_with (go_at_call 9; refine (num_any _ _).mono ?_; rintro e w' ⟨rfl, rfl⟩)
            go_roundw
            case rel => exact ⟨m + 1, by omega, by go_num, r3⟩
            case measure => simp [intOf]; omega
          · have R2 : Hid (Run b u1 wr []) := by rw [show m = 16 by omega, drop_take_all] at HR; exact HR
            have hmd : decide ((m : Int) < 16) = false := decide_eq_false (by omega)
            clear HR hm
            go_wp2_with fail
            refine (run_pop b u1 _ _ R2).mono ?_
            rintro e w2 ⟨rfl, r3⟩
            rw [show popE [] = 800 from rfl, show popV [] = 0 from rfl]
            go_wp2_with (first | (go_at_call 9; refine (num_any _ _).mono ?_; rintro e w' ⟨rfl, rfl⟩) | (go_at_call 12; refine (run_len b u1 _ _ r3).mono ?_; rintro e w' ⟨rfl, rfl⟩))
            go_ret
            exact ⟨rfl, B1.out.trans (run_old r3 (Nat.le_trans B1.out.size hb) B1.out.size)⟩
  · go_enter Try.func4, Try.ntmps4
    go_wp2_with fail
    refine (awake_any _).mono ?_
    rintro e u1 ⟨rfl, b1⟩
    have B1 : Hid (Below w.heap.size w u1) := b1
    clear b1
    go_wp2_with fail
    refine (run_new _).mono ?_
    rintro e u2 ⟨b, rfl, hb, r2⟩
    go_wp2_with fail
    go_loopw [7] (fun i wr => ∃ j : Nat, j ≤ 16 ∧ i = .int .i64 j ∧ Hid (Run b u1 wr (L.take j))) (fun i _ => (16 - intOf i).toNat)
    case atStart => exact ⟨0, by omega, rfl, r2⟩
    case round =>
      obtain ⟨j, hj, rfl, HR⟩ := hrel
      clear r2
      by_cases hjk : j < 16
      · obtain ⟨x, Hx⟩ : ∃ x, Hid (L.getD j 0 = x) := ⟨_, rfl⟩
        obtain ⟨c0, cap, e0, hread⟩ := HCm.out
        rw [HZl.out] at hread
        obtain ⟨ga, oa, e1, hcell⟩ := hread (by omega)
        simp only [Value.slice.injEq] at e0
        obtain ⟨rfl, -, rfl⟩ := e0
        subst e1
        have hwv : Below w.heap.size w wr := B1.out.trans (run_old HR (Nat.le_trans B1.out.size hb) B1.out.size)
        have ca : wr.cell? ⟨ga, oa + j, none⟩ = some (.int .i64 x) := by rw [← Hx.out, hwv.cell (cell_lt (hcell j (by omega)))]; exact hcell j (by omega)
        have HE : Hid (pushE (L.take j) = 0 ∧ pushL (L.take j) x = L.take (j + 1)) := take_push (by rw [HZl.out]; omega) (by omega) Hx.out
        have HLn : Hid ((L.take (j + 1)).length = j + 1) := by rw [Hid, List.length_take, HZl.out]; omega
        clear hread hcell hwv Hx HCm
        go_wp2_with fail
        refine (run_push b u1 _ x _ HR).mono ?_
        rintro e w2 ⟨rfl, r3⟩
        rw [HE.out.2] at r3
        rw [HE.out.1]
        clear HR HE
        go_wp2_with (first | (go_at_call 9; refine (num_any _ _).mono ?_; rintro e w' ⟨rfl, rfl⟩) | (go_at_call 12; refine (run_len b u1 _ _ r3).mono ?_; rintro e w' ⟨rfl, rfl⟩; rw [HLn.out]))
        go_roundw
        case rel => exact ⟨j + 1, by omega, by go_num, r3⟩
        case measure => simp [intOf]; omega
      · have R0 : Hid (Run b u1 wr ((L.take 16).drop 0)) := by rw [show j = 16 by omega] at HR; exact HR
        clear HR hj
        have hjd : decide ((j : Int) < 16) = false := decide_eq_false (by omega)
        have HF : Hid (pushE ((L.take 16).drop 0) = 801 ∧ pushL ((L.take 16).drop 0) a1 = (L.take 16).drop 0) := take_full (by rw [HZl.out]; omega) a1
        go_wp2_with fail
        refine (run_push b u1 _ a1 _ R0).mono ?_
        rintro e w2 ⟨rfl, R1⟩
        rw [HF.out.2] at R1
        rw [HF.out.1]
        clear R0 HF
        go_wp2_with (go_at_call 9; refine (num_any _ _).mono ?_; rintro e w' ⟨rfl, rfl⟩)
        go_loopw [8] (fun i v => ∃ m : Nat, m ≤ 16 ∧ i = .int .i64 m ∧ Hid (Run b u1 v ((L.take 16).drop m))) (fun i _ => (16 - intOf i).toNat)
        case atStart => exact ⟨0, by omega, rfl, R1⟩
        case round =>
          obtain ⟨m, hm, rfl, HR⟩ := hrel
          clear R1
          by_cases hmk : m < 16
          · obtain ⟨x, Hx⟩ : ∃ x, Hid (L.getD m 0 = x) := ⟨_, rfl⟩
            obtain ⟨c0, cap, e0, hread⟩ := HCm.out
            rw [HZl.out] at hread
            obtain ⟨ga, oa, e1, hcell⟩ := hread (by omega)
            simp only [Value.slice.injEq] at e0
            obtain ⟨rfl, -, rfl⟩ := e0
            subst e1
            have HE : Hid (popE ((L.take 16).drop m) = 0 ∧ popV ((L.take 16).drop m) = x ∧ popL ((L.take 16).drop m) = (L.take 16).drop (m + 1)) := drop_pop (by rw [HZl.out]; omega) (by omega) Hx.out
            go_wp2_with fail
            refine (run_pop b u1 _ _ HR).mono ?_
            rintro e w2 ⟨rfl, r3⟩
            rw [HE.out.2.2] at r3
            rw [HE.out.1, HE.out.2.1]
            have hwv : Below w.heap.size w w2 := B1.out.trans (run_old r3 (Nat.le_trans B1.out.size hb) B1.out.size)
            have ca : w2.cell? ⟨ga, oa + m, none⟩ = some (.int .i64 x) := by rw [← Hx.out, hwv.cell (cell_lt (hcell m (by omega)))]; exact hcell m (by omega)
            clear hread hcell hwv Hx HCm HR HE
            go_wp2_with (go_at_call 9; refine (num_any _ _).mono ?_; rintro e w' ⟨rfl, rfl⟩)
            go_roundw
            case rel => exact ⟨m + 1, by omega, by go_num, r3⟩
            case measure => simp [intOf]; omega
          · have R2 : Hid (Run b u1 wr []) := by rw [show m = 16 by omega, drop_take_all] at HR; exact HR
            have hmd : decide ((m : Int) < 16) = false := decide_eq_false (by omega)
            clear HR hm
            go_wp2_with fail
            refine (run_pop b u1 _ _ R2).mono ?_
            rintro e w2 ⟨rfl, r3⟩
            rw [show popE [] = 800 from rfl, show popV [] = 0 from rfl]
            go_wp2_with (first | (go_at_call 9; refine (num_any _ _).mono ?_; rintro e w' ⟨rfl, rfl⟩) | (go_at_call 12; refine (run_len b u1 _ _ r3).mono ?_; rintro e w' ⟨rfl, rfl⟩))
            go_ret
            exact ⟨rfl, B1.out.trans (run_old r3 (Nat.le_trans B1.out.size hb) B1.out.size)⟩

set_option maxRecDepth 100000 in
theorem lifted (os : Os) (started : os.Started) (H : Type) (enc : TypeId × Value → H) :
    ReturnsInHanded {} Try.checked os 4 .any (Rows.fifoRowSpec.pre6 enc Try.prog Try.f4 Rows.fifoRowRow.domain false) (Rows.fifoRowSpec.post enc Try.prog Try.f4 false true false false) := by
  refine returnsInHanded_of_change (C := Try.checked) own started (by kernel_rfl) Try.func4
    (ChangeSpec.witness6 (enc := enc) (C := Try.checked) false ⟨#[], #[.slice none 0 0, .int .i64 0], []⟩ 8 (by kernel_rfl) (by kernel_rfl) (by kernel_rfl) (by kernel_rfl)) ?_
  intro W base args ds gs before hval0 hW hcnd _
  have hval : ∀ (j : Nat) t v, Try.f4.params[j]? = some t → args[j]? = some v → Value.okWide Try.prog W .any base t v := hval0
  have hW' := hW
  obtain ⟨p, q, hA0, hV, rfl, hfz, hnd⟩ := hW
  have hA : DataW.TrodAll enc Try.prog W 0 (fun _ => true) true Try.f4.params.toList args.toList ds p := hA0
  rw [Try.params4] at hA hval
  obtain ⟨v0, vs0, d0, ds0, p0, q0, hargs, rfl, rfl, h0, r0⟩ := trodAll_cons hA
  obtain ⟨v1, vs1, d1, ds1, p1, q1, rfl, rfl, rfl, h1, r1⟩ := trodAll_cons r0
  obtain ⟨rfl, rfl, rfl⟩ := trodAll_nil r1
  obtain rfl : args = #[v0, v1] := by cases args; simp_all
  obtain ⟨rfl, rfl⟩ := trodVars_none hV
  obtain ⟨a0, len0, cap0, rfl⟩ := okWide_slice Try.underlying22 (hval 0 22 v0 rfl rfl)
  have k0 := h0
  have lt0 : ∀ x ∈ p0, x.block < W.heap.size := by obtain ⟨m, hm⟩ := k0; exact DataW.trod_lt m _ _ _ hm
  obtain ⟨z0, w0⟩ : ∃ zs, IsRow .i64 W a0 len0 cap0 zs := by
    obtain ⟨fuel, hf⟩ := h0
    rcases open_ints Try.underlying22 Try.underlying3 (by kernel_rfl) hf with ⟨hcs, _⟩ | ⟨x, l, c, zs, hcs, _, hl, hm, hz, _, hcell, hwz⟩
    · simp [Value.cells] at hcs
      obtain ⟨rfl, rfl, rfl⟩ := hcs
      exact ⟨[], .inl ⟨rfl, rfl, rfl, rfl⟩⟩
    · simp [Value.cells] at hcs
      obtain ⟨rfl, rfl, rfl⟩ := hcs
      exact ⟨zs, .inr ⟨_, rfl, hl, hm, by simpa using hz, hcell, hwz⟩⟩
  obtain ⟨a1, rfl, rfl, rfl, w1⟩ := open_int Try.underlying3 (hval 1 3 v1 rfl rfl) h1
  clear hA0 hval0
  refine (walk a0 len0 cap0 z0 a1 W w0 w1).mono fun e W' ⟨he, bel⟩ => ?_
  subst he
  exact ⟨_, rfl, _, _, _, [], _, [], hW', trodAll_mk1 (shut_bool Try.underlying4 _), (trodAll_cons_mk (Below.trod laidOut (by kernel_rfl) (of_decide_eq_true (by kernel_rfl)) k0 bel lt0) (trodAll_cons_mk (shut_int Try.underlying3 w1) trodAll_mk0)), rfl, bel.frame _, fun h => by cases h⟩

theorem over : Rows.fifoRowRow.holds Try.pinned (OpenSpec.ofChange Rows.fifoRowSpec) :=
  OpenClaim.holds_of_wide 4 Try.f4 rfl rfl rfl rfl rfl rfl rfl ⟨rfl, rfl, rfl, rfl, rfl⟩ rfl rfl rfl rfl rfl (by kernel_rfl) Try.func4 (by kernel_rfl)
    (of_decide_eq_true (by kernel_rfl)) (by unfold Func.isWrapper; first | (rw [if_pos (by decide +kernel)]; kernel_rfl) | (rw [if_neg (by decide +kernel)]; exact ⟨rfl, rfl⟩))
    (fun os started H enc _ => lifted os started H enc)

theorem proved : Rows.FifoRowSaid := over
#print axioms proved
end Go.Proofs.Ytkmhcihkdpdmoaa.fifoRow
