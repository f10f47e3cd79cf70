/-
  Fifos: any pushes and pops are answered as the document says. No conditions.
-/
import Derived.Test.YtkmhcihkdpdmoaaRows
import Derived.Test.YtkmhcihkdpdmoaaTwo
import Derived.Test.YtkmhcihkdpdmoaaCame
import Derived.WalkKit
import Derived.ProofKit
import Derived.OpenShut
import Derived.ShutString
import Derived.ChangeOld
import Derived.Below
namespace Go.Proofs.Ytkmhcihkdpdmoaa.fifos
open Go.ChangeShapes Go.WideShapes Go.ChangeAt Go.RowKit
open Go.ChangeMaps (open_string shut_string)
set_option linter.unusedVariables false

theorem own : ownKnob Try.prog.godebug = none := by kernel_rfl
theorem laidOut : laidOutB Try.prog = true := by kernel_rfl

/-- WHAT THE WALK IS TOLD OF A SLICE OF INTEGERS THAT CAME IN: it is nil; or it leads to a row of 'cap' cells, the numbers 'zs' (the first 'len' are its elements, the rest its spare room), each fitting its kind. -/
def IsRow (k : IntKind) (w : World) (a : Option Addr) (len cap : Nat) (zs : List Int) : Prop :=
  (a = none ∧ len = 0 ∧ cap = 0 ∧ zs = []) ∨
  ∃ x, a = some x ∧ len ≤ cap ∧ cap ≤ maxLen ∧ zs.length = cap ∧ (∀ i, i < zs.length → w.cell? (x.add i) = some (.int k (zs.getD i 0))) ∧ ∀ n ∈ zs, (Lit.int k n).wf = true

set_option maxRecDepth 100000 in
set_option maxHeartbeats 2000000 in
theorem walk (a0 : Option Addr) (len0 cap0 : Nat) (z0 : List Int) (w : World) (w0 : IsRow .i64 w a0 len0 cap0 z0) :
    Calls Try.prog 3 #[.slice a0 len0 cap0] w fun e w' => e = .returned (.bool true) ∧ Below w.heap.size w w' := by
  obtain ⟨L, HC⟩ : ∃ L, Hid (Came w a0 len0 cap0 L) := by
    rcases w0 with ⟨rfl, rfl, rfl, rfl⟩ | ⟨x, rfl, h1, h2, h3, h4, h5⟩
    · exact ⟨[], rfl, .inl ⟨rfl, rfl, rfl⟩⟩
    · exact ⟨_, came_of h1 h3 h4⟩
  clear w0
  have HCm : Hid (Reads w (.slice a0 len0 cap0) L) := HC.out.reads
  have HZl : Hid (L.length = len0) := HC.out.1
  clear HC
  go_enter Try.func3, Try.ntmps3
  go_wp2_with fail
  refine (run_new _).mono ?_
  rintro e u2 ⟨b, rfl, hb, r2⟩
  have T2 := two_new r2 hb
  obtain ⟨c, hc⟩ : ∃ c, c = u2.heap.size := ⟨_, rfl⟩
  rw [← hc] at T2
  clear r2
  go_wp2_with fail
  rw [← hc]
  go_loopw [5] (fun i wr => ∃ (j : Nat) (M : List Int), j ≤ len0 ∧ j ≤ 100 ∧ i = .int .i64 j ∧ Hid (Two b c w wr M M)) (fun i _ => (len0 - intOf i).toNat)
  case atStart => exact ⟨0, [], by omega, by omega, rfl, T2⟩
  case round =>
    obtain ⟨j, M, hj1, hj2, rfl, HR⟩ := hrel
    clear T2 hc
    by_cases hlt : j < len0 ∧ j < 100
    · obtain ⟨hlt1, hlt2⟩ := hlt
      obtain ⟨x, Hx⟩ : ∃ x, Hid (L.getD j 0 = x) := ⟨_, rfl⟩
      obtain ⟨c0, cap, e0, hread⟩ := HCm.out
      rw [HZl.out] at hread
      obtain ⟨ga, oa, e1, hcell⟩ := hread (by omega)
      simp only [Value.slice.injEq] at e0
      obtain ⟨rfl, -, rfl⟩ := e0
      subst e1
      have H0 : Hid (w.cell? ⟨ga, oa + j, none⟩ = some (.int .i64 x)) := by rw [← Hx.out]; exact hcell j (by omega)
      have ca : wr.cell? ⟨ga, oa + j, none⟩ = some (.int .i64 x) := two_cell HR H0.out
      clear hread hcell Hx HCm HZl
      by_cases hz : (bits BinOp.and IntKind.i64 x 1 == 1) = true
      · go_wp2_with fail
        refine (two_pop b c w M M _ HR).mono ?_
        rintro e w2 ⟨rfl, r2⟩
        obtain ⟨y, Hy⟩ : ∃ y, Hid (popV M = y) := ⟨_, rfl⟩
        obtain ⟨n, Hn⟩ : ∃ n, Hid (popE M = n) := ⟨_, rfl⟩
        rw [Hy.out, Hn.out]
        clear HR ca hz
        go_wp2_with fail
        refine (two_refPop b c w _ M _ r2).mono ?_
        rintro e w3 ⟨rfl, r3⟩
        rw [Hy.out, Hn.out]
        obtain ⟨M', HM'⟩ : ∃ M', Hid (popL M = M') := ⟨_, rfl⟩
        rw [HM'.out] at r3
        clear r2
        go_wp2_with (go_at_call 9; refine (num_any _ _).mono ?_; rintro e w' ⟨rfl, rfl⟩)
        obtain ⟨ra, rc, hrow⟩ := two_row r3
        go_quiet (first | (go_at_call 12; exact Calls.quiet_of_same (two_lenN r3 _)))
        go_wp2
        go_roundw
        case rel => exact ⟨j + 1, M', by omega, by omega, by go_num, two_drawN r3 _⟩
        case measure => simp [intOf]; omega
      · have hzf : (bits BinOp.and IntKind.i64 x 1 == 1) = false := by simpa using hz
        have HR0 := two_draw HR
        have S0 : wr.drew.cell? ⟨ga, oa + j, none⟩ = some (.int .i64 x) := ca
        obtain ⟨n, Hn⟩ : ∃ n, Hid (pushE M = n) := ⟨_, rfl⟩
        obtain ⟨M', HM'⟩ : ∃ M', Hid (pushL M x = M') := ⟨_, rfl⟩
        have hji : (j : Int) < len0 := by omega
        clear hz
        go_wp2_with fail
        go_region_held3 (fun v => v.cell? ⟨ga, oa + j, none⟩ = some (.int .i64 x)) (first | exact S0 | exact two_cell (by assumption) H0.out) (first | (go_at_call 10; refine (two_push b c w M M x _ HR0).mono ?_; rintro e w2 ⟨rfl, r2⟩; rw [Hn.out]; rw [HM'.out] at r2) | (go_at_call 9; refine (num_any _ _).mono ?_; rintro e w' ⟨rfl, rfl⟩) | (go_at_call 11; refine (two_refPush b c w M' M x _ r2).mono ?_; rintro e w3 ⟨rfl, r3⟩; rw [Hn.out]; rw [HM'.out] at r3))
        clear HR HR0 S0 ca
        go_wp2_with fail
        obtain ⟨ra, rc, hrow⟩ := two_row r3
        go_quiet (first | (go_at_call 12; exact Calls.quiet_of_same (two_lenN r3 _)))
        go_wp2
        go_roundw
        case rel => exact ⟨j + 1, M', by omega, by omega, by go_num, two_drawN r3 _⟩
        case measure => simp [intOf]; omega
    · rcases (show len0 ≤ j ∨ (j < len0 ∧ 100 ≤ j) by omega) with hge | ⟨hlt1, hge⟩
      · have hd : decide ((j : Int) < len0) = false := decide_eq_false (by omega)
        go_wp2_with fail
        refine (awake_any _).mono ?_
        rintro e w2 ⟨rfl, b2⟩
        go_wp2
        go_ret
        exact ⟨rfl, below_then HR.out.below b2⟩
      · have hd : decide ((j : Int) < 100) = false := decide_eq_false (by omega)
        go_wp2_with fail
        refine (awake_any _).mono ?_
        rintro e w2 ⟨rfl, b2⟩
        go_wp2
        go_ret
        exact ⟨rfl, below_then HR.out.below b2⟩

set_option maxRecDepth 100000 in
theorem lifted (os : Os) (started : os.Started) (H : Type) (enc : TypeId × Value → H) :
    ReturnsInHanded {} Try.checked os 3 .any (Rows.fifosSpec.pre6 enc Try.prog Try.f3 Rows.fifosRow.domain false) (Rows.fifosSpec.post enc Try.prog Try.f3 false true false false) := by
  refine returnsInHanded_of_change (C := Try.checked) own started (by kernel_rfl) Try.func3
    (ChangeSpec.witness6 (enc := enc) (C := Try.checked) false ⟨#[], #[.slice none 0 0], []⟩ 8 (by kernel_rfl) (by kernel_rfl) (by kernel_rfl) (by kernel_rfl)) ?_
  intro W base args ds gs before hval0 hW hcnd _
  have hval : ∀ (j : Nat) t v, Try.f3.params[j]? = some t → args[j]? = some v → Value.okWide Try.prog W .any base t v := hval0
  have hW' := hW
  obtain ⟨p, q, hA0, hV, rfl, hfz, hnd⟩ := hW
  have hA : DataW.TrodAll enc Try.prog W 0 (fun _ => true) true Try.f3.params.toList args.toList ds p := hA0
  rw [Try.params3] at hA hval
  obtain ⟨v0, vs0, d0, ds0, p0, q0, hargs, rfl, rfl, h0, r0⟩ := trodAll_cons hA
  obtain ⟨rfl, rfl, rfl⟩ := trodAll_nil r0
  obtain rfl : args = #[v0] := by cases args; simp_all
  obtain ⟨rfl, rfl⟩ := trodVars_none hV
  obtain ⟨a0, len0, cap0, rfl⟩ := okWide_slice Try.underlying22 (hval 0 22 v0 rfl rfl)
  have k0 := h0
  have lt0 : ∀ x ∈ p0, x.block < W.heap.size := by obtain ⟨m, hm⟩ := k0; exact DataW.trod_lt m _ _ _ hm
  obtain ⟨z0, w0⟩ : ∃ zs, IsRow .i64 W a0 len0 cap0 zs := by
    obtain ⟨fuel, hf⟩ := h0
    rcases open_ints Try.underlying22 Try.underlying3 (by kernel_rfl) hf with ⟨hcs, _⟩ | ⟨x, l, c, zs, hcs, _, hl, hm, hz, _, hcell, hwz⟩
    · simp [Value.cells] at hcs
      obtain ⟨rfl, rfl, rfl⟩ := hcs
      exact ⟨[], .inl ⟨rfl, rfl, rfl, rfl⟩⟩
    · simp [Value.cells] at hcs
      obtain ⟨rfl, rfl, rfl⟩ := hcs
      exact ⟨zs, .inr ⟨_, rfl, hl, hm, by simpa using hz, hcell, hwz⟩⟩
  clear hA0 hval0
  refine (walk a0 len0 cap0 z0 W w0).mono fun e W' ⟨he, bel⟩ => ?_
  subst he
  exact ⟨_, rfl, _, _, _, [], _, [], hW', trodAll_mk1 (shut_bool Try.underlying4 _), (trodAll_cons_mk (Below.trod laidOut (by kernel_rfl) (of_decide_eq_true (by kernel_rfl)) k0 bel lt0) trodAll_mk0), rfl, bel.frame _, fun h => by cases h⟩

theorem over : Rows.fifosRow.holds Try.pinned (OpenSpec.ofChange Rows.fifosSpec) :=
  OpenClaim.holds_of_wide 3 Try.f3 rfl rfl rfl rfl rfl rfl rfl ⟨rfl, rfl, rfl, rfl, rfl⟩ rfl rfl rfl rfl rfl (by kernel_rfl) Try.func3 (by kernel_rfl)
    (of_decide_eq_true (by kernel_rfl)) (by unfold Func.isWrapper; first | (rw [if_pos (by decide +kernel)]; kernel_rfl) | (rw [if_neg (by decide +kernel)]; exact ⟨rfl, rfl⟩))
    (fun os started H enc _ => lifted os started H enc)

theorem proved : Rows.FifosSaid := over
#print axioms proved
end Go.Proofs.Ytkmhcihkdpdmoaa.fifos
