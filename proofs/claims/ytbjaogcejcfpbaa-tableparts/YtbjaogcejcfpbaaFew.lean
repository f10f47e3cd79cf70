/-
  The small calls beneath Command: a row cloned, a place in three bytes, whether all numbers are bytes; each by a contract. Condition: a row is no longer than a row that is read may be.
-/
import Derived.Test.YtbjaogcejcfpbaaPhases
import Derived.Test.YtbjaogcejcfpbaaMask
import Derived.Lib.SliceRun
namespace Go.Proofs.Ytbjaogcejcfpbaa
open Go.RowKit
set_option linter.unusedVariables false

set_option maxRecDepth 100000 in
set_option maxHeartbeats 1000000 in
theorem clone_any (a : Option Addr) (n cap : Nat) (L : List Int) (w : World) (h : Came w a n cap L) (hb : n * 8 ≤ 140737488351232) :
    Calls Try.prog 32 #[.slice a n cap] w fun e w' => ∃ v, e = .returned v ∧ Owns w.heap.size w' v L ∧ Below w.heap.size w w' := by
  obtain ⟨i0, hi, hz0, hz1, hz2⟩ := info_parts info3
  have q24 : ∀ (w : World) (a : Option Addr) (n c n' c' : Nat), (binOp .eql 24 (.slice a n c) (.slice none n' c')).run Try.prog w = .ok (.bool a.isNone) w := fun w a n c n' c' => Lib.run_eql_slice_nil w _ _ a n c n' c' Try.underlying24
  have hown : (w.alloc (.cells #[] 3)).ownsRow w.heap.size 3 1 (.slice (some ⟨w.heap.size, 0, none⟩) 0 0) 0 [] := World.ownsRow_lit (base := w.heap.size) (e := 3) (size := 1) w #[] 0 (Nat.le_refl _) (by unfold maxLen; omega) rfl
  obtain ⟨hn, ⟨rfl, rfl, rfl⟩ | ⟨x, rfl, hnc, hc⟩⟩ := h
  · have hL : L = [] := List.length_eq_zero_iff.1 hn
    subst hL
    go_enter Try.func32, Try.ntmps32
    go_wp2
    go_ret
    exact ⟨_, rfl, World.ownsRow_nil _ _ _ _, Below.refl _ _⟩
  · have hnews : ∀ j u, (L.map (Value.int .i64))[j]? = some u → (w.alloc (.cells #[] 3)).cell? (x.add j) = some u := fun j u hu => by
      have hj : j < n := by
        rcases Nat.lt_or_ge j n with h | h
        · exact h
        · rw [List.getElem?_eq_none (by rw [List.length_map]; omega)] at hu; cases hu
      have h1 := hc j hj
      rw [((Below.refl _ w).alloc (Nat.le_refl _) _).cell (by exact cell_lt h1), h1, ← hu, List.getElem?_map, List.getD_eq_getElem?_getD, List.getElem?_eq_getElem (by omega)]
      rfl
    have HN : Hid (L.length = n) := hn
    clear hc hn
    go_enter Try.func32, Try.ntmps32
    go_wp2_with (at_builtin; refine wpList_append_own _ rfl _ _ 24 rfl w.heap.size 3 i0 (.int .i64 0) 1 8 Try.underlying24 hi hz0 hz1 hz2 rfl (by decide) _ _ _ rfl hown x n cap (L.map (Value.int .i64)) rfl (by rw [List.length_map, HN.out]; omega) hnews (ints_oneCell _ _) (by unfold maxLen; omega) (by omega) (by simp) ?_)
    intro v' w' h1 h2 h3
    have HO : Hid (Owns w.heap.size w' v' L) := by
      rw [Hid, Owns, HN.out]
      exact h1
    have HB : Hid (Below w.heap.size w w') := ((Below.refl _ _).alloc (Nat.le_refl _) _).grown h2 (by simp) fun k hk => by
      have : w.heap.size = k := by simpa [Value.ownBlock] using hk
      omega
    clear h1 h2 h3 hnews hown
    go_wp2
    go_ret
    exact ⟨_, rfl, HO.out, HB.out⟩

/-- A place in three bytes, the highest first. -/
def addrL (k : Nat) : List Int := [((k / 65536 : Nat) : Int), ((k / 256 % 256 : Nat) : Int), ((k % 256 : Nat) : Int)]
theorem shr_nat (k s : Nat) : (k : Int) >>> s = ((k / 2 ^ s : Nat) : Int) := by
  rw [Int.shiftRight_eq_div_pow]; norm_cast

set_option maxRecDepth 100000 in
set_option maxHeartbeats 1000000 in
theorem address_any (k : Nat) (w : World) (hk : k < 4096) :
    Calls Try.prog 31 #[.int .i64 k] w fun e w' => ∃ v, e = .returned v ∧ Owns w.heap.size w' v (addrL k) ∧ Below w.heap.size w w' := by
  go_enter Try.func31, Try.ntmps31
  go_wp2
  go_ret
  exact ⟨_, rfl, Owns.lit (addrL k) 3 _ (by simp [addrL]) rfl (by unfold maxLen; omega), below_new _ _⟩

set_option maxRecDepth 100000 in
set_option maxHeartbeats 1000000 in
theorem no_byte (x : Int) (w : World) :
    Calls Try.prog 30 #[.int .i64 x] w fun e w' => e = .returned (.bool (decide (x < 0 ∨ 256 ≤ x))) ∧ w = w' := by
  by_cases h0 : x < 0
  · go_enter Try.func30, Try.ntmps30
    go_wp2
    go_ret
    exact ⟨ret_bool (decide_eq_true (Or.inl h0)).symm, rfl⟩
  · by_cases h1 : 256 ≤ x
    · go_enter Try.func30, Try.ntmps30
      go_wp2
      go_ret
      exact ⟨ret_bool (by first | (simp; done) | (simp; omega)), rfl⟩
    · go_enter Try.func30, Try.ntmps30
      go_wp2
      go_ret
      exact ⟨ret_bool (by first | (simp; done) | (simp; omega)), rfl⟩

/-- Is each number a byte? -/
def byB (L : List Int) : Bool := L.all fun x => decide (0 ≤ x ∧ x < 256)
theorem byB_to {L : List Int} {n : Nat} (hn : n = L.length) (h : ∀ j, j < n → 0 ≤ L.getD j 0 ∧ L.getD j 0 < 256) : byB L = true := by
  rw [byB, List.all_eq_true]
  intro x hx
  obtain ⟨j, hj, rfl⟩ := List.mem_iff_getElem.1 hx
  have := h j (by omega)
  rw [List.getD_eq_getElem?_getD, List.getElem?_eq_getElem hj] at this
  exact decide_eq_true this
theorem byB_no {L : List Int} {k : Nat} (hk : k < L.length) (h : L.getD k 0 < 0 ∨ 256 ≤ L.getD k 0) : byB L = false := by
  rw [byB, List.all_eq_false]
  refine ⟨L[k], List.getElem_mem hk, ?_⟩
  rw [List.getD_eq_getElem?_getD, List.getElem?_eq_getElem hk] at h
  have h : L[k] < 0 ∨ 256 ≤ L[k] := h
  simp; omega

set_option maxRecDepth 100000 in
set_option maxHeartbeats 1000000 in
theorem index_any (u : Value) (L : List Int) (w : World) (hu : Reads w u L) (hl : L.length * 8 ≤ 140737488351232) :
    Calls Try.prog 34 #[u, .func (.func 30) #[] #[]] w fun e w' => (∃ z : Int, e = .returned (.int .i64 z) ∧ byB L = decide (z < 0)) ∧ Below w.heap.size w w' := by
  obtain ⟨a, c1, rfl, hu⟩ := hu
  obtain ⟨n, hn⟩ : ∃ n, n = L.length := ⟨_, rfl⟩
  rw [← hn] at hl hu
  rw [← hn]
  have HN : Hid (n = L.length) := hn
  clear hn
  by_cases h0 : n = 0
  · subst h0
    have HL : Hid (byB L = true) := byB_to HN.out fun j hj => by omega
    clear hu
    go_enter Try.func34, Try.ntmps34
    go_wp2
    refine wp_loop_rounds 1 ?_
    rw [rounds_succ]
    go_wp2
    go_ret
    exact ⟨⟨-1, rfl, HL.out⟩, Below.refl _ _⟩
  · obtain ⟨g, o, rfl, hg⟩ := hu (by omega)
    clear hu
    go_enter Try.func34, Try.ntmps34
    go_wp2
    go_loopw [5, 8] (fun s i wr => ∃ k : Nat, k ≤ n ∧ i = .int .i64 k ∧ (∀ j, j < k → 0 ≤ L.getD j 0 ∧ L.getD j 0 < 256) ∧ Hid (wr = w)) (fun _ i _ => n - (intOf i).toNat)
    case atStart => exact ⟨0, Nat.zero_le _, rfl, fun j hj => by omega, rfl⟩
    case round =>
      obtain ⟨k, hk, rfl, hs, HW⟩ := hrel
      have HS : Hid (∀ j, j < k → 0 ≤ L.getD j 0 ∧ L.getD j 0 < 256) := hs
      by_cases hlt : k < n
      · obtain ⟨x, hx⟩ : ∃ x, x = L.getD k 0 := ⟨_, rfl⟩
        have c1 : wr.cell? ⟨g, o + k, none⟩ = some (.int .i64 x) := by rw [hx, HW.out]; exact hg k (by omega)
        have HX : Hid (x = L.getD k 0) := hx
        clear hs hg hx
        by_cases hb : x < 0 ∨ 256 ≤ x
        · have HB : Hid (x < 0 ∨ 256 ≤ x) := hb
          clear hb
          go_wp2_with fail
          refine (no_byte x _).mono ?_
          rintro e w' ⟨rfl, rfl⟩
          rw [show decide (x < 0 ∨ 256 ≤ x) = true from decide_eq_true HB.out]
          go_wp2
          go_ret
          exact ⟨⟨k, rfl, by rw [byB_no (by rw [← HN.out]; exact hlt) (by rw [← HX.out]; exact HB.out)]; exact (decide_eq_false (by omega)).symm⟩, by rw [HW.out]; exact Below.refl _ _⟩
        · have HB : Hid (¬ (x < 0 ∨ 256 ≤ x)) := hb
          clear hb
          go_wp2_with fail
          refine (no_byte x _).mono ?_
          rintro e w' ⟨rfl, rfl⟩
          rw [show decide (x < 0 ∨ 256 ≤ x) = false from decide_eq_false HB.out]
          go_wp2
          go_roundw
          case rel => exact ⟨k + 1, by omega, by go_num, fun j hj => by
            rcases Nat.lt_or_eq_of_le (Nat.le_of_lt_succ hj) with h | rfl
            · exact HS.out j h
            · rw [← HX.out]; have := HB.out; omega, HW⟩
          case measure => simp [intOf]; omega
      · have HL : Hid (byB L = true) := byB_to HN.out fun j hj => hs j (by omega)
        clear hs hg
        go_wp2
        go_ret
        exact ⟨⟨-1, rfl, HL.out⟩, by rw [HW.out]; exact Below.refl _ _⟩

set_option maxRecDepth 100000 in
set_option maxHeartbeats 1000000 in
theorem contains_any (u : Value) (L : List Int) (w : World) (hu : Reads w u L) (hl : L.length * 8 ≤ 140737488351232) :
    Calls Try.prog 29 #[u, .func (.func 30) #[] #[]] w fun e w' => e = .returned (.bool (!byB L)) ∧ Below w.heap.size w w' := by
  have hu' : Hid (Reads w u L) := hu
  obtain ⟨a, c1, rfl, -⟩ := hu
  go_enter Try.func29, Try.ntmps29
  go_wp2_with fail
  refine (index_any _ L _ hu'.out hl).mono ?_
  rintro e w1 ⟨⟨z, rfl, hz⟩, b1⟩
  have HZ : Hid (byB L = decide (z < 0)) := hz
  clear hz
  by_cases h : z < 0
  · go_wp2
    go_ret
    exact ⟨ret_bool (by rw [HZ.out, decide_eq_true h, decide_eq_false (by omega)]; rfl), b1⟩
  · go_wp2
    go_ret
    exact ⟨ret_bool (by rw [HZ.out]; first | (simp; done) | (simp; omega)), b1⟩

/-- Are they bytes, and no more than a sector has? -/
def fewB (L : List Int) : Bool := decide (L.length ≤ 512) && byB L

set_option maxRecDepth 100000 in
set_option maxHeartbeats 1000000 in
theorem only_any (u : Value) (L : List Int) (w : World) (hu : Reads w u L) (hl : L.length * 8 ≤ 140737488351232) :
    Calls Try.prog 24 #[u] w fun e w' => e = .returned (.bool (fewB L)) ∧ Below w.heap.size w w' := by
  have hu' : Hid (Reads w u L) := hu
  obtain ⟨a, c1, rfl, -⟩ := hu
  by_cases h : L.length ≤ 512
  · obtain ⟨x, hx⟩ : ∃ x, byB L = x := ⟨_, rfl⟩
    rw [show fewB L = x by rw [fewB, decide_eq_true h, Bool.true_and, hx]]
    have HX : Hid (byB L = x) := hx
    clear hx
    cases x
    · go_enter Try.func24, Try.ntmps24
      go_wp2_with fail
      refine (contains_any _ L _ hu'.out hl).mono ?_
      rintro e w1 ⟨rfl, b1⟩
      rw [HX.out]
      go_wp2
      go_ret
      exact ⟨rfl, b1⟩
    · go_enter Try.func24, Try.ntmps24
      go_wp2_with fail
      refine (contains_any _ L _ hu'.out hl).mono ?_
      rintro e w1 ⟨rfl, b1⟩
      rw [HX.out]
      go_wp2
      go_ret
      exact ⟨rfl, b1⟩
  · rw [show fewB L = false by rw [fewB, decide_eq_false h, Bool.false_and]]
    go_enter Try.func24, Try.ntmps24
    go_wp2
    go_ret
    exact ⟨rfl, Below.refl _ _⟩

set_option maxRecDepth 100000 in
set_option maxHeartbeats 1000000 in
theorem may_any (u : Value) (L : List Int) (w : World) (hu : Reads w u L) (hl : L.length * 8 ≤ 140737488351232) :
    Calls Try.prog 33 #[u] w fun e w' => e = .returned (.bool (byB L)) ∧ Below w.heap.size w w' := by
  obtain ⟨a, c1, rfl, hu⟩ := hu
  obtain ⟨n, hn⟩ : ∃ n, n = L.length := ⟨_, rfl⟩
  rw [← hn] at hl hu
  rw [← hn]
  have HN : Hid (n = L.length) := hn
  clear hn
  by_cases h0 : n = 0
  · subst h0
    have HL : Hid (byB L = true) := byB_to HN.out fun j hj => by omega
    clear hu
    go_enter Try.func33, Try.ntmps33
    go_wp2
    refine wp_loop_rounds 1 ?_
    rw [rounds_succ]
    go_wp2
    go_ret
    exact ⟨ret_bool HL.out.symm, Below.refl _ _⟩
  · obtain ⟨g, o, rfl, hg⟩ := hu (by omega)
    clear hu
    go_enter Try.func33, Try.ntmps33
    go_wp2
    go_loopw [3] (fun i wr => ∃ k : Nat, k ≤ n ∧ i = .int .i64 k ∧ (∀ j, j < k → 0 ≤ L.getD j 0 ∧ L.getD j 0 < 256) ∧ Hid (wr = w)) (fun i _ => n - (intOf i).toNat)
    case atStart => exact ⟨0, Nat.zero_le _, rfl, fun j hj => by omega, rfl⟩
    case round =>
      obtain ⟨k, hk, rfl, hs, HW⟩ := hrel
      have HS : Hid (∀ j, j < k → 0 ≤ L.getD j 0 ∧ L.getD j 0 < 256) := hs
      by_cases hlt : k < n
      · obtain ⟨x, hx⟩ : ∃ x, x = L.getD k 0 := ⟨_, rfl⟩
        have c1 : wr.cell? ⟨g, o + k, none⟩ = some (.int .i64 x) := by rw [hx, HW.out]; exact hg k (by omega)
        have HX : Hid (x = L.getD k 0) := hx
        clear hs hg hx
        by_cases hb0 : x < 0
        · go_wp2
          go_ret
          exact ⟨ret_bool (byB_no (by rw [← HN.out]; exact hlt) (by rw [← HX.out]; omega)).symm, by rw [HW.out]; exact Below.refl _ _⟩
        · by_cases hb1 : 255 < x
          · go_wp2
            go_ret
            exact ⟨ret_bool (byB_no (by rw [← HN.out]; exact hlt) (by rw [← HX.out]; omega)).symm, by rw [HW.out]; exact Below.refl _ _⟩
          · go_wp2
            go_roundw
            case rel => exact ⟨k + 1, by omega, by go_num, fun j hj => by
              rcases Nat.lt_or_eq_of_le (Nat.le_of_lt_succ hj) with h | rfl
              · exact HS.out j h
              · rw [← HX.out]; omega, HW⟩
            case measure => simp [intOf]; omega
      · have HL : Hid (byB L = true) := byB_to HN.out fun j hj => hs j (by omega)
        clear hs hg
        go_wp2
        go_ret
        exact ⟨ret_bool HL.out.symm, by rw [HW.out]; exact Below.refl _ _⟩
end Go.Proofs.Ytbjaogcejcfpbaa
