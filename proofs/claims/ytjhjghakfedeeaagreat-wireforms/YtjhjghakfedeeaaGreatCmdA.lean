/-
  Commands and when they may be: the calls of layer 9, by contracts. Conditions: those of each statement.
-/
import Derived.Test.YtjhjghakfedeeaaGreatPh
import Derived.Test.YtjhjghakfedeeaaGreatWalk
import Derived.Test.YtjhjghakfedeeaaGreatCalls2
import Derived.Test.YtjhjghakfedeeaaGreatTold2
import Derived.Lib.SliceRun
import Derived.Deep.AppendLies
import Derived.Deep.RegionHeld3
import Derived.Deep.CutBlock
import Derived.Deep.CutRange
namespace Go.Proofs.YtjhjghakfedeeaaGreat
open Go.RowKit Plain
set_option linter.unusedVariables false

set_option maxRecDepth 100000 in
set_option maxHeartbeats 1000000 in
theorem tclone_any (a : Option Addr) (n cap : Nat) (L : List Int) (w : World) (h : Came w a n cap L) (hb : n * 8 ≤ 140737488351232) :
    Calls Tryz.prog 87 #[.slice a n cap] w fun e w' => ∃ v, e = .returned v ∧ Owns w.heap.size w' v L ∧ Below w.heap.size w w' := by
  obtain ⟨i0, hi, hz0, hz1, hz2⟩ := info_parts info3
  have q24 : ∀ (w : World) (a : Option Addr) (n c n' c' : Nat), (binOp .eql 23 (.slice a n c) (.slice none n' c')).run Tryz.prog w = .ok (.bool a.isNone) w := fun w a n c n' c' => Lib.run_eql_slice_nil w _ _ a n c n' c' Tryz.underlying23
  have hown : (w.alloc (.cells #[] 3)).ownsRow w.heap.size 3 1 (.slice (some ⟨w.heap.size, 0, none⟩) 0 0) 0 [] := World.ownsRow_lit (base := w.heap.size) (e := 3) (size := 1) w #[] 0 (Nat.le_refl _) (by unfold maxLen; omega) rfl
  obtain ⟨hn, ⟨rfl, rfl, rfl⟩ | ⟨x, rfl, hnc, hc⟩⟩ := h
  · have hL : L = [] := List.length_eq_zero_iff.1 hn
    subst hL
    go_enter Tryz.func87, Tryz.ntmps87
    go_wp2
    go_ret
    exact ⟨_, rfl, World.ownsRow_nil _ _ _ _, Below.refl _ _⟩
  · have hnews : ∀ j u, (L.map (Value.int .i64))[j]? = some u → (w.alloc (.cells #[] 3)).cell? (x.add j) = some u := fun j u hu => by
      have hj : j < n := by
        rcases Nat.lt_or_ge j n with h | h
        · exact h
        · rw [List.getElem?_eq_none (by rw [List.length_map]; omega)] at hu; cases hu
      have h1 := hc j hj
      rw [((Below.refl _ w).alloc (Nat.le_refl _) _).cell (by exact cell_lt h1), h1, ← hu, List.getElem?_map, List.getD_eq_getElem?_getD, List.getElem?_eq_getElem (by omega)]
      rfl
    have HN : Hid (L.length = n) := hn
    clear hc hn
    go_enter Tryz.func87, Tryz.ntmps87
    go_wp2_with (at_builtin; refine wpList_append_own _ rfl _ _ 23 rfl w.heap.size 3 i0 (.int .i64 0) 1 8 Tryz.underlying23 hi hz0 hz1 hz2 rfl (by decide) _ _ _ rfl hown x n cap (L.map (Value.int .i64)) rfl (by rw [List.length_map, HN.out]; omega) hnews (ints_oneCell _ _) (by unfold maxLen; omega) (by omega) (by simp) ?_)
    intro v' w' h1 h2 h3
    have HO : Hid (Owns w.heap.size w' v' L) := by
      rw [Hid, Owns, HN.out]
      exact h1
    have HB : Hid (Below w.heap.size w w') := ((Below.refl _ _).alloc (Nat.le_refl _) _).grown h2 (by simp) fun k hk => by
      have : w.heap.size = k := by simpa [Value.ownBlock] using hk
      omega
    clear h1 h2 h3 hnews hown
    go_wp2
    go_ret
    exact ⟨_, rfl, HO.out, HB.out⟩

set_option maxRecDepth 100000 in
set_option maxHeartbeats 1000000 in
theorem address_any (k : Nat) (w : World) (hk : k < 4096) :
    Calls Tryz.prog 159 #[.int .i64 k] w fun e w' => ∃ v, e = .returned v ∧ Owns w.heap.size w' v (addrL k) ∧ Below w.heap.size w w' := by
  go_enter Tryz.func159, Tryz.ntmps159
  go_wp2
  go_ret
  exact ⟨_, rfl, Owns.lit (addrL k) 3 _ (by simp [addrL]) rfl (by unfold maxLen; omega), below_new _ _⟩

set_option maxRecDepth 100000 in
set_option maxHeartbeats 1000000 in
theorem tmay_any (u : Value) (L : List Int) (w : World) (hu : Reads w u L) (hl : L.length * 8 ≤ 140737488351232) :
    Calls Tryz.prog 93 #[u] w fun e w' => e = .returned (.bool (byB L)) ∧ Below w.heap.size w w' := by
  obtain ⟨a, c1, rfl, hu⟩ := hu
  obtain ⟨n, hn⟩ : ∃ n, n = L.length := ⟨_, rfl⟩
  rw [← hn] at hl hu
  rw [← hn]
  have HN : Hid (n = L.length) := hn
  clear hn
  by_cases h0 : n = 0
  · subst h0
    have HL : Hid (byB L = true) := byB_to HN.out fun j hj => by omega
    clear hu
    go_enter Tryz.func93, Tryz.ntmps93
    go_wp2
    refine wp_loop_rounds 1 ?_
    rw [rounds_succ]
    go_wp2
    go_ret
    exact ⟨ret_bool HL.out.symm, Below.refl _ _⟩
  · obtain ⟨g, o, rfl, hg⟩ := hu (by omega)
    clear hu
    go_enter Tryz.func93, Tryz.ntmps93
    go_wp2
    go_loopw [3] (fun i wr => ∃ k : Nat, k ≤ n ∧ i = .int .i64 k ∧ (∀ j, j < k → 0 ≤ L.getD j 0 ∧ L.getD j 0 < 256) ∧ Hid (wr = w)) (fun i _ => n - (intOf i).toNat)
    case atStart => exact ⟨0, Nat.zero_le _, rfl, fun j hj => by omega, rfl⟩
    case round =>
      obtain ⟨k, hk, rfl, hs, HW⟩ := hrel
      have HS : Hid (∀ j, j < k → 0 ≤ L.getD j 0 ∧ L.getD j 0 < 256) := hs
      by_cases hlt : k < n
      · obtain ⟨x, hx⟩ : ∃ x, x = L.getD k 0 := ⟨_, rfl⟩
        have c1 : wr.cell? ⟨g, o + k, none⟩ = some (.int .i64 x) := by rw [hx, HW.out]; exact hg k (by omega)
        have HX : Hid (x = L.getD k 0) := hx
        clear hs hg hx
        by_cases hb0 : x < 0
        · go_wp2
          go_ret
          exact ⟨ret_bool (byB_no (by rw [← HN.out]; exact hlt) (by rw [← HX.out]; omega)).symm, by rw [HW.out]; exact Below.refl _ _⟩
        · by_cases hb1 : 255 < x
          · go_wp2
            go_ret
            exact ⟨ret_bool (byB_no (by rw [← HN.out]; exact hlt) (by rw [← HX.out]; omega)).symm, by rw [HW.out]; exact Below.refl _ _⟩
          · go_wp2
            go_roundw
            case rel => exact ⟨k + 1, by omega, by go_num, fun j hj => by
              rcases Nat.lt_or_eq_of_le (Nat.le_of_lt_succ hj) with h | rfl
              · exact HS.out j h
              · rw [← HX.out]; omega, HW⟩
            case measure => simp [intOf]; omega
      · have HL : Hid (byB L = true) := byB_to HN.out fun j hj => hs j (by omega)
        clear hs hg
        go_wp2
        go_ret
        exact ⟨ret_bool HL.out.symm, by rw [HW.out]; exact Below.refl _ _⟩

/-- The commands below k. -/
def opsTo (k : Nat) : List Int := ((List.range k).filter fun j : Nat => isOp (j : Int)).map fun j : Nat => (j : Int)
theorem opsTo_succ (k : Nat) : opsTo (k + 1) = opsTo k ++ (if isOp (k : Int) = true then [(k : Int)] else []) := by
  unfold opsTo
  rw [List.range_succ, List.filter_append, List.map_append]
  by_cases h : isOp (k : Int) = true <;> simp [h]
theorem opsTo_yes {k : Nat} (h : isOp (k : Int) = true) : opsTo (k + 1) = opsTo k ++ [(k : Int)] := by rw [opsTo_succ, if_pos h]
theorem opsTo_no {k : Nat} (h : isOp (k : Int) = false) : opsTo (k + 1) = opsTo k := by rw [opsTo_succ, if_neg (by rw [h]; decide), List.append_nil]
theorem opsTo_all : opsTo 256 = opL := by decide +kernel
theorem opsTo_length (k : Nat) : (opsTo k).length ≤ k := by
  unfold opsTo
  rw [List.length_map]
  exact Nat.le_trans (List.length_filter_le _ _) (by simp)


/-- In block g lie six values. -/
def Six (w : World) (g : Nat) (x0 x1 x2 x3 x4 x5 : Value) : Prop :=
  w.cell? ⟨g, 0, none⟩ = some x0 ∧ w.cell? ⟨g, 1, none⟩ = some x1 ∧ w.cell? ⟨g, 2, none⟩ = some x2 ∧ w.cell? ⟨g, 3, none⟩ = some x3 ∧ w.cell? ⟨g, 4, none⟩ = some x4 ∧ w.cell? ⟨g, 5, none⟩ = some x5
theorem Six.new (w : World) (x0 x1 x2 x3 x4 x5 : Value) : Six (w.alloc (.cells #[x0, x1, x2, x3, x4, x5] 54)) w.heap.size x0 x1 x2 x3 x4 x5 := by
  have h := fun j => cell_of_row (w.alloc (.cells #[x0, x1, x2, x3, x4, x5] 54)) w.heap.size j #[x0, x1, x2, x3, x4, x5] 54 (0, 0) (heap_alloc_new _ _)
  exact ⟨h 0, h 1, h 2, h 3, h 4, h 5⟩
theorem Six.below {w w' : World} {g : Nat} {x0 x1 x2 x3 x4 x5 : Value} (h : Six w g x0 x1 x2 x3 x4 x5) (b : Below w.heap.size w w') : Six w' g x0 x1 x2 x3 x4 x5 := by
  obtain ⟨h0, h1, h2, h3, h4, h5⟩ := h
  exact ⟨(b.cell (by exact cell_lt h0)).trans h0, (b.cell (by exact cell_lt h1)).trans h1, (b.cell (by exact cell_lt h2)).trans h2, (b.cell (by exact cell_lt h3)).trans h3, (b.cell (by exact cell_lt h4)).trans h4, (b.cell (by exact cell_lt h5)).trans h5⟩

theorem reads_cell {w : World} {g n c : Nat} {L : List Int} (h : Reads w (.slice (some ⟨g, 0, none⟩) n c) L) (j : Nat) (hj : j < L.length) : w.cell? ⟨g, j, none⟩ = some (.int .i64 (L.getD j 0)) := by
  obtain ⟨a, cap, he, hc⟩ := h
  obtain ⟨g', o, ha, hc'⟩ := hc (by omega)
  rw [ha] at he
  injection he with h1 h2 h3
  injection h1 with h1
  injection h1 with h4 h5 h6
  subst h4 h5
  have := hc' j hj
  rwa [Nat.zero_add] at this

/-- A command below 256 stands where so many commands are smaller. -/
theorem at_yes : ∀ k : Nat, k < 256 → isOp (k : Int) = true → (opsTo k).length < 14 ∧ opL.getD (opsTo k).length 0 = (k : Int) := by decide +kernel
/-- What is no command does not stand there. -/
theorem at_no : ∀ k : Nat, k < 256 → isOp (k : Int) = false → (opsTo k).length = 14 ∨ ((opsTo k).length < 14 ∧ opL.getD (opsTo k).length 0 ≠ (k : Int)) := by decide +kernel
/-- Which parts a command has. -/
theorem parts (b : Int) (h : isOp b = true) :
    (opA b = 0 ∧ opM b = false ∧ opN b = 1 ∧ opI b = true) ∨ (opA b = 1 ∧ opM b = false ∧ opN b = 1 ∧ opI b = true) ∨ (opA b = 1 ∧ opM b = false ∧ opN b = 1 ∧ opI b = false) ∨
    (opA b = 0 ∧ opM b = false ∧ opN b = 0 ∧ opI b = false) ∨ (opA b = 0 ∧ opM b = false ∧ opN b = 1 ∧ opI b = false) ∨ (opA b = 1 ∧ opM b = false ∧ opN b = 0 ∧ opI b = false) ∨
    (opA b = 1 ∧ opM b = false ∧ opN b = 4 ∧ opI b = false) ∨ (opA b = 4 ∧ opM b = true ∧ opN b = 4 ∧ opI b = false) := by
  rcases (isOp_iff b).1 h with rfl | rfl | rfl | rfl | rfl | rfl | rfl | rfl | rfl | rfl | rfl | rfl | rfl | rfl <;> decide
/-- The commands with their parts, written out by hand. -/
abbrev byHand : Array Value := #[.int .i64 1, .int .i64 0, .bool false, .int .i64 0, .int .i64 1, .bool true, .int .i64 2, .int .i64 1, .bool false, .int .i64 0, .int .i64 1, .bool true, .int .i64 3, .int .i64 1, .bool false, .int .i64 0, .int .i64 1, .bool false, .int .i64 4, .int .i64 0, .bool false, .int .i64 0, .int .i64 0, .bool false, .int .i64 5, .int .i64 0, .bool false, .int .i64 0, .int .i64 1, .bool false, .int .i64 6, .int .i64 0, .bool false, .int .i64 0, .int .i64 0, .bool false, .int .i64 32, .int .i64 1, .bool false, .int .i64 0, .int .i64 0, .bool false, .int .i64 53, .int .i64 0, .bool false, .int .i64 0, .int .i64 1, .bool false, .int .i64 90, .int .i64 1, .bool false, .int .i64 8, .int .i64 1, .bool false, .int .i64 107, .int .i64 1, .bool false, .int .i64 8, .int .i64 4, .bool false, .int .i64 117, .int .i64 0, .bool false, .int .i64 0, .int .i64 0, .bool false, .int .i64 122, .int .i64 0, .bool false, .int .i64 0, .int .i64 0, .bool false, .int .i64 159, .int .i64 0, .bool false, .int .i64 0, .int .i64 1, .bool false, .int .i64 235, .int .i64 4, .bool true, .int .i64 4, .int .i64 4, .bool false]
theorem byHand_at : ∀ K : Nat, K < 14 → byHand[K * 6]? = some (.int .i64 (opL.getD K 0)) ∧ byHand[K * 6 + 1]? = some (.int .i64 (opA (opL.getD K 0))) ∧ byHand[K * 6 + 2]? = some (.bool (opM (opL.getD K 0))) ∧
    byHand[K * 6 + 3]? = some (.int .i64 (opD (opL.getD K 0))) ∧ byHand[K * 6 + 4]? = some (.int .i64 (opN (opL.getD K 0))) ∧ byHand[K * 6 + 5]? = some (.bool (opI (opL.getD K 0))) := by
  intro K hK
  rcases (show K = 0 ∨ K = 1 ∨ K = 2 ∨ K = 3 ∨ K = 4 ∨ K = 5 ∨ K = 6 ∨ K = 7 ∨ K = 8 ∨ K = 9 ∨ K = 10 ∨ K = 11 ∨ K = 12 ∨ K = 13 by omega) with rfl | rfl | rfl | rfl | rfl | rfl | rfl | rfl | rfl | rfl | rfl | rfl | rfl | rfl <;> exact ⟨rfl, rfl, rfl, rfl, rfl, rfl⟩
theorem is_at : ∀ K : Nat, K < 14 → isOp (opL.getD K 0) = true := by decide +kernel
/-- In block g, from the cell o on, lie six values. -/
def SixAt (w : World) (g o : Nat) (x0 x1 x2 x3 x4 x5 : Value) : Prop :=
  w.cell? ⟨g, o, none⟩ = some x0 ∧ w.cell? ⟨g, o + 1, none⟩ = some x1 ∧ w.cell? ⟨g, o + 2, none⟩ = some x2 ∧ w.cell? ⟨g, o + 3, none⟩ = some x3 ∧ w.cell? ⟨g, o + 4, none⟩ = some x4 ∧ w.cell? ⟨g, o + 5, none⟩ = some x5
theorem SixAt.new (w : World) (K : Nat) (hK : K < 14) : SixAt (w.alloc (.cells byHand 54)) w.heap.size (K * 6) (.int .i64 (opL.getD K 0)) (.int .i64 (opA (opL.getD K 0))) (.bool (opM (opL.getD K 0))) (.int .i64 (opD (opL.getD K 0))) (.int .i64 (opN (opL.getD K 0))) (.bool (opI (opL.getD K 0))) := by
  obtain ⟨h0, h1, h2, h3, h4, h5⟩ := byHand_at K hK
  have h := fun j => cell_of_row (w.alloc (.cells byHand 54)) w.heap.size j byHand 54 (0, 0) (heap_alloc_new _ _)
  exact ⟨(h _).trans h0, (h _).trans h1, (h _).trans h2, (h _).trans h3, (h _).trans h4, (h _).trans h5⟩
theorem SixAt.below {w w' : World} {g o : Nat} {x0 x1 x2 x3 x4 x5 : Value} (h : SixAt w g o x0 x1 x2 x3 x4 x5) (b : Below w.heap.size w w') : SixAt w' g o x0 x1 x2 x3 x4 x5 := by
  obtain ⟨h0, h1, h2, h3, h4, h5⟩ := h
  exact ⟨(b.cell (by exact cell_lt h0)).trans h0, (b.cell (by exact cell_lt h1)).trans h1, (b.cell (by exact cell_lt h2)).trans h2, (b.cell (by exact cell_lt h3)).trans h3, (b.cell (by exact cell_lt h4)).trans h4, (b.cell (by exact cell_lt h5)).trans h5⟩

/-- A command's six parts. -/
abbrev Op6 := Int × Int × Bool × Int × Int × Bool
def op6C (o : Op6) : Array Value := #[.int .i64 o.1, .int .i64 o.2.1, .bool o.2.2.1, .int .i64 o.2.2.2.1, .int .i64 o.2.2.2.2.1, .bool o.2.2.2.2.2]
/-- In block g lies the command o. -/
def Box (w : World) (g : Nat) (o : Op6) : Prop := w.heap[g]? = some (.cells (op6C o) 54 (0, 0))
theorem Box.lt {w : World} {g : Nat} {o : Op6} (h : Box w g o) : g < w.heap.size := by
  rcases Nat.lt_or_ge g w.heap.size with hlt | hge
  · exact hlt
  · rw [Box, Array.getElem?_eq_none hge] at h; cases h
theorem Box.six {w : World} {g : Nat} {o : Op6} (h : Box w g o) : Six w g (.int .i64 o.1) (.int .i64 o.2.1) (.bool o.2.2.1) (.int .i64 o.2.2.2.1) (.int .i64 o.2.2.2.2.1) (.bool o.2.2.2.2.2) := by
  have h := fun j => cell_of_row w g j (op6C o) 54 (0, 0) h
  exact ⟨h 0, h 1, h 2, h 3, h 4, h 5⟩
theorem Box.below {w w' : World} {g : Nat} {o : Op6} (h : Box w g o) (b : Below w.heap.size w w') : Box w' g o := (b.block g h.lt).trans h
theorem Box.grown {w w' : World} {g B n : Nat} {v : Value} {xs : List Value} {o : Op6} (h : Box w g o) (k : w.ownsRow B 49 4 v n xs) (hg : w.grownBy w' v.ownBlock) : Box w' g o := by
  refine (hg.block g h.lt fun e => ?_).trans h
  rcases k.2 with ⟨rfl, -⟩ | ⟨g', cap, cur, rfl, -, hc, -⟩
  · simp [Value.ownBlock] at e
  · have : g = g' := by simpa [Value.ownBlock] using e
    subst this
    rw [Box, hc] at h
    simp at h
theorem Box.new (w : World) (o : Op6) : Box (w.alloc (.cells #[.int .i64 o.1, .int .i64 o.2.1, .bool o.2.2.1, .int .i64 o.2.2.2.1, .int .i64 o.2.2.2.2.1, .bool o.2.2.2.2.2] 54)) w.heap.size o := heap_alloc_new _ _

/-- Since w0: the phases X (at most j of them) stand in v, the command o in its block. -/
def Mid (w0 : World) (o : Op6) (j : Nat) (X : List Ph) (v : Value) (w : World) : Prop :=
  ∃ qs, POwns w0.heap.size w v qs ∧ qs.map Prod.snd = X ∧ qs.length ≤ j ∧ Box w w0.heap.size o ∧ Below w0.heap.size w0 w

theorem Mid.first (w : World) (o : Op6) : Mid w o 1 [(1, [o.1], 0, 0)] (.slice (some ⟨w.heap.size + 1 + 1, 0, none⟩) 1 1) (((w.alloc (.cells #[.int .i64 o.1, .int .i64 o.2.1, .bool o.2.2.1, .int .i64 o.2.2.2.1, .int .i64 o.2.2.2.2.1, .bool o.2.2.2.2.2] 54)).alloc (.cells #[.int .i64 o.1] 3)).alloc (.cells #[.int .i64 1, .slice (some ⟨w.heap.size + 1, 0, none⟩) 1 1, .int .i64 0, .int .i64 0] 49)) := by
  have hx := Box.new w o
  generalize hw1 : w.alloc (.cells #[.int .i64 o.1, .int .i64 o.2.1, .bool o.2.2.1, .int .i64 o.2.2.2.1, .int .i64 o.2.2.2.2.1, .bool o.2.2.2.2.2] 54) = w1 at hx ⊢
  have hs : w1.heap.size = w.heap.size + 1 := by rw [← hw1]; simp
  have b1 : Below w.heap.size w w1 := by rw [← hw1]; exact below_new _ _
  have ho : Owns w.heap.size (w1.alloc (.cells #[.int .i64 o.1] 3)) (.slice (some ⟨w.heap.size + 1, 0, none⟩) 1 1) [o.1] := by
    have := Owns.lit (w := w1) [o.1] 1 #[.int .i64 o.1] rfl rfl (by unfold maxLen; omega)
    rw [hs] at this
    rcases this with ⟨t1, t2 | ⟨g, cap, cur, hv, hb, hr⟩⟩
    · exact ⟨t1, .inl t2⟩
    · exact ⟨t1, .inr ⟨g, cap, cur, hv, by omega, hr⟩⟩
  have hB : w.heap.size ≤ (w1.alloc (.cells #[.int .i64 o.1] 3)).heap.size := by simp [hs]; omega
  have hp := POwns.lit (p := (1, [o.1], 0, 0)) ho hB
  have hsz : (w1.alloc (.cells #[.int .i64 o.1] 3)).heap.size = w.heap.size + 1 + 1 := by simp [hs]
  rw [hsz] at hp
  exact ⟨_, hp, rfl, Nat.le_refl 1, (hx.below (below_new _ _)).below (below_new _ _), below_then (below_then b1 (below_new _ _)) (below_new _ _)⟩

/-- One phase more: what the append asks for, and what it leaves. -/
theorem Mid.laid {w0 w w' : World} {o : Op6} {j : Nat} {X : List Ph} {v bv : Value} {p : Ph} (h : Mid w0 o j X v w) (b : Below w.heap.size w w') (hb : Owns w0.heap.size w' bv p.2.1) :
    ∃ qs : List (Value × Ph), qs.length ≤ j ∧ (w'.alloc (.cells #[.int .i64 p.1, bv, .int .i64 p.2.2.1, .int .i64 p.2.2.2] 49)).ownsRow w0.heap.size 49 4 v qs.length (rowC qs) ∧
      (∀ i u, (phC bv p)[i]? = some u → (w'.alloc (.cells #[.int .i64 p.1, bv, .int .i64 p.2.2.1, .int .i64 p.2.2.2] 49)).cell? ((⟨w'.heap.size, 0, none⟩ : Addr).add i) = some u) ∧ (∀ u ∈ phC bv p, u.oneCell' = true) ∧ w0.heap.size ≤ w'.heap.size ∧ (Box w' w0.heap.size o ∧ Box (w'.alloc (.cells #[.int .i64 p.1, bv, .int .i64 p.2.2.1, .int .i64 p.2.2.2] 49)) w0.heap.size o) ∧
      ∀ g cap w2, w2.ownsRow w0.heap.size 49 4 (.slice (some ⟨g, 0, none⟩) (qs.length + 1) cap) (qs.length + 1) (rowC qs ++ phC bv p) → (w'.alloc (.cells #[.int .i64 p.1, bv, .int .i64 p.2.2.1, .int .i64 p.2.2.2] 49)).grownBy w2 v.ownBlock → Mid w0 o (j + 1) (X ++ [p]) (.slice (some ⟨g, 0, none⟩) (qs.length + 1) cap) w2 := by
  obtain ⟨qs, hp, hX, hl, hx, hB⟩ := h
  have b2 := below_then b (below_new w' (.cells #[.int .i64 p.1, bv, .int .i64 p.2.2.1, .int .i64 p.2.2.2] 49))
  have hp2 := hp.below b2 (Nat.le_refl _)
  have hx2 := hx.below b2
  have hB2 := below_then hB b2
  have hb2 : Owns w0.heap.size (w'.alloc (.cells #[.int .i64 p.1, bv, .int .i64 p.2.2.1, .int .i64 p.2.2.2] 49)) bv p.2.1 := hb.below (below_new _ _) (Nat.le_refl _)
  obtain ⟨a, c, hbv⟩ := own_slice hb
  refine ⟨qs, hl, hp2.1, ?_, phC_one hbv, (below_then hB b).size, ⟨hx.below b, hx2⟩, fun g cap w2 ho hg => ?_⟩
  · exact World.news_of_block (heap_alloc_new _ _)
  · refine ⟨_, hp2.more hb2 ho hg, by rw [List.map_append, hX]; rfl, by rw [List.length_append]; simp; omega, hx2.grown hp2.1 hg, ?_⟩
    exact hB2.grown hg hB2.size fun k hk => (hp2.1.lt k hk).1
theorem Mid.drew {w0 w : World} {o : Op6} {j : Nat} {X : List Ph} {v : Value} (h : Mid w0 o j X v w) : Mid w0 o j X v w.drew := by
  obtain ⟨qs, hp, hX, hl, hx, hB⟩ := h
  exact ⟨qs, ⟨hp.1, hp.2⟩, hX, hl, hx, hB.drew⟩
theorem Mid.box {w0 w : World} {o : Op6} {j : Nat} {X : List Ph} {v : Value} (h : Mid w0 o j X v w) : Box w w0.heap.size o := h.choose_spec.2.2.2.1
theorem Mid.old {w0 w : World} {o : Op6} {j : Nat} {X : List Ph} {v : Value} (h : Mid w0 o j X v w) : Below w0.heap.size w0 w := h.choose_spec.2.2.2.2
theorem Mid.more {w0 w : World} {o : Op6} {j k : Nat} {X : List Ph} {v : Value} (h : Mid w0 o j X v w) (hk : j ≤ k) : Mid w0 o k X v w := by
  obtain ⟨qs, hp, hX, hl, hr⟩ := h
  exact ⟨qs, hp, hX, by omega, hr⟩
/-- The phases of a command. -/
def phL (o : Op6) (k : Nat) (L : List Int) (r : Int) : List Ph :=
  [(1, [o.1], 0, 0)] ++ (if 0 < o.2.1 then [(o.2.1, addrL k, 0, 0)] else []) ++ (if o.2.2.1 = true then [(o.2.1, L, 0, 0)] else []) ++ (if 0 < o.2.2.2.1 then [(0, [], o.2.2.2.1, 0)] else []) ++ (if o.2.2.2.2.2 = true ∧ 0 < L.length then [(o.2.2.2.2.1, L, 0, 0)] else []) ++ (if 0 < r then [(o.2.2.2.2.1, [], 0, r)] else [])

/-- The first phase, laid behind calls that wrote nothing old. -/
theorem Mid.start {w w1 : World} {o : Op6} (hx : Box w1 w.heap.size o) (b1 : Below w.heap.size w w1) : Mid w o 1 [(1, [o.1], 0, 0)] (.slice (some ⟨w1.heap.size + 1, 0, none⟩) 1 1) ((w1.alloc (.cells #[.int .i64 o.1] 3)).alloc (.cells #[.int .i64 1, .slice (some ⟨w1.heap.size, 0, none⟩) 1 1, .int .i64 0, .int .i64 0] 49)) := by
  have hs := b1.size
  have ho : Owns w.heap.size (w1.alloc (.cells #[.int .i64 o.1] 3)) (.slice (some ⟨w1.heap.size, 0, none⟩) 1 1) [o.1] := by
    have := Owns.lit (w := w1) [o.1] 1 #[.int .i64 o.1] rfl rfl (by unfold maxLen; omega)
    exact this.below (Below.refl _ _) hs
  have hB : w.heap.size ≤ (w1.alloc (.cells #[.int .i64 o.1] 3)).heap.size := by simp; omega
  have hp := POwns.lit (p := (1, [o.1], 0, 0)) ho hB
  have hsz : (w1.alloc (.cells #[.int .i64 o.1] 3)).heap.size = w1.heap.size + 1 := by simp
  rw [hsz] at hp
  exact ⟨_, hp, rfl, Nat.le_refl 1, (hx.below (below_new _ _)).below (below_new _ _), below_then (below_then b1 (below_new _ _)) (below_new _ _)⟩


/-- 'append([]int{}, data...)' at a step of a region that draws its order. -/
theorem step_copy {ops : Array Oper} {o : Oper} {a : Act} {K : Act → World → Prop} {Q : Exit → Act → World → Prop} {E : Prop} (hgd : o.guard = none) (s x : Operand)
    (ho : o.op = .call { callee := .builtin .append, args := #[s, x], argTypes := #[23, 23] }) (w0 W : World) (y : Addr) (n c : Nat) (L : List Int) (hs : a.eval s = .slice (some ⟨W.heap.size, 0, none⟩) 0 0) (hx : a.eval x = .slice (some y) n c)
    (hC : Came w0 (some y) n c L) (hB : Below w0.heap.size w0 W) (hn : n * 8 ≤ 140737488351232) (hp : 0 < n)
    (h : ∀ g cap w', Owns W.heap.size w' (.slice (some ⟨g, 0, none⟩) L.length cap) L → Below W.heap.size W w' → K (a.put o.dst (.slice (some ⟨g, 0, none⟩) L.length cap)) w') :
    if Region.wanted o (yielded ops a.tmps) = true then Oper.wp Tryz.prog o a (W.alloc (.cells #[] 3)) K Q else E := by
  obtain ⟨i3, ti, tz0, tz1, tz2⟩ := info_parts info3
  have hown : (W.alloc (.cells #[] 3)).ownsRow W.heap.size 3 1 (.slice (some ⟨W.heap.size, 0, none⟩) 0 0) 0 [] := World.ownsRow_lit (base := W.heap.size) (e := 3) (size := 1) W #[] 0 (Nat.le_refl _) (by unfold maxLen; omega) rfl
  have hC2 : Came (W.alloc (.cells #[] 3)) (some y) n c L := hC.below (below_then hB (below_new _ _))
  obtain ⟨hl, ⟨h0, -, -⟩ | ⟨x', hx', hnc, hc⟩⟩ := hC2
  · cases h0
  · injection hx' with hx'
    subst hx'
    have hnews : ∀ j u, (L.map (Value.int .i64))[j]? = some u → (W.alloc (.cells #[] 3)).cell? (y.add j) = some u := fun j u hu => by
      have hj : j < n := by
        rcases Nat.lt_or_ge j n with h | h
        · exact h
        · rw [List.getElem?_eq_none (by rw [List.length_map]; omega)] at hu; cases hu
      rw [hc j hj, ← hu, List.getElem?_map, List.getD_eq_getElem?_getD, List.getElem?_eq_getElem (by omega)]
      rfl
    refine step_append_lies _ hgd s x 23 ho W.heap.size 3 i3 (.int .i64 0) 1 8 Tryz.underlying23 ti tz0 tz1 tz2 rfl (by decide) _ 0 [] hs hown y n c (L.map (Value.int .i64)) hx (by rw [List.length_map, hl]; omega) hnews (ints_oneCell _ _) hp (by unfold maxLen; omega) (by omega) (by simp) _ rfl ?_
    intro g cap w1 hown1 hgrow hat hlt
    have e : 0 + n = L.length := by omega
    rw [e] at hown1 ⊢
    refine h g cap w1 ?_ ?_
    · exact hown1
    · exact ((Below.refl _ _).alloc (Nat.le_refl _) _).grown hgrow (by simp) fun k hk => by
        have : W.heap.size = k := by simpa [Value.ownBlock] using hk
        omega

/-- Are these the parts of the command b? -/
def knB (b A : Int) (M : Bool) (D N : Int) (I : Bool) : Bool := isOp b && (decide (opA b = A) && (decide (opM b = M) && (decide (opD b = D) && (decide (opN b = N) && decide (opI b = I)))))
def plB (A k : Int) : Bool := if A = 0 then decide (k = 0) else decide (0 ≤ k ∧ k < 4096)
def caB (N : Int) (I M : Bool) (n : Nat) (r : Int) : Bool := if N = 0 then decide (n = 0 ∧ r = 0) else if I = true then decide (r = 0) else if M = true then decide (n = 1) else decide (n = 0)
def rdB (r : Int) : Bool := decide (0 ≤ r ∧ r ≤ 512)
/-- May it be driven? -/
def fitB (b A : Int) (M : Bool) (D N : Int) (I : Bool) (k : Int) (L : List Int) (r : Int) : Bool := knB b A M D N I && (plB A k && (fewB L && (rdB r && caB N I M L.length r)))

set_option maxRecDepth 100000 in
set_option maxHeartbeats 1000000 in
theorem known_any (b A : Int) (M : Bool) (D N : Int) (I : Bool) (w : World) :
    Calls Tryz.prog 142 #[.agg #[.int .i64 b, .int .i64 A, .bool M, .int .i64 D, .int .i64 N, .bool I]] w fun e w' => e = .returned (.bool (knB b A M D N I)) ∧ Below w.heap.size w w' := by
  by_cases hop : isOp b = true
  · obtain ⟨xA, hA⟩ : ∃ x, opA b = x := ⟨_, rfl⟩
    obtain ⟨xM, hM⟩ : ∃ x, opM b = x := ⟨_, rfl⟩
    obtain ⟨xD, hD⟩ : ∃ x, opD b = x := ⟨_, rfl⟩
    obtain ⟨xN, hN⟩ : ∃ x, opN b = x := ⟨_, rfl⟩
    obtain ⟨xI, hI⟩ : ∃ x, opI b = x := ⟨_, rfl⟩
    have HO := of_yes b (w.alloc (.cells #[.int .i64 b, .int .i64 A, .bool M, .int .i64 D, .int .i64 N, .bool I] 54)) hop
    rw [knB, hop, Bool.true_and, hA, hM, hD, hN, hI]
    rw [hA, hM, hD, hN, hI] at HO
    have HO : Hid (Calls _ _ _ _ _) := HO
    have HS : Hid (Six (w.alloc (.cells #[.int .i64 b, .int .i64 A, .bool M, .int .i64 D, .int .i64 N, .bool I] 54)) w.heap.size (.int .i64 b) (.int .i64 A) (.bool M) (.int .i64 D) (.int .i64 N) (.bool I)) := Six.new _ _ _ _ _ _ _
    clear hA hM hD hN hI hop
    go_enter Tryz.func142, Tryz.ntmps142
    go_wp2_with fail
    refine HO.out.mono ?_
    rintro e w1 ⟨rfl, b1⟩
    obtain ⟨c0, c1, c2, c3, c4, c5⟩ := HS.out.below (below_then b1 (below_new w1 (.cells #[.int .i64 b, .int .i64 xA, .bool xM, .int .i64 xD, .int .i64 xN, .bool xI] 54)))
    have B1 : Hid (Below w.heap.size w w1) := below_then (below_new _ _) b1
    clear b1 HS HO
    go_wp2
    all_goals go_ret
    all_goals exact ⟨ret_bool (by simp [*]), below_then B1.out (below_new _ _)⟩
  · have hno : isOp b = false := by simpa using hop
    have HK : Hid (knB b A M D N I = false) := by rw [Hid, knB, hno, Bool.false_and]
    go_enter Tryz.func142, Tryz.ntmps142
    go_wp2_with fail
    refine (of_no b _ hno).mono ?_
    rintro e w1 ⟨rfl, b1⟩
    have B1 : Hid (Below w.heap.size w w1) := below_then (below_new _ _) b1
    clear b1
    go_wp2
    go_ret
    exact ⟨ret_bool HK.out.symm, below_then B1.out (below_new _ _)⟩

set_option maxRecDepth 100000 in
set_option maxHeartbeats 1000000 in
theorem placed_any (b A : Int) (M : Bool) (D N : Int) (I : Bool) (k : Int) (w : World) :
    Calls Tryz.prog 143 #[.agg #[.int .i64 b, .int .i64 A, .bool M, .int .i64 D, .int .i64 N, .bool I], .int .i64 k] w fun e w' => e = .returned (.bool (plB A k)) ∧ Below w.heap.size w w' := by
  by_cases hA : A = 0
  · rw [show plB A k = decide (k = 0) by rw [plB, if_pos hA]]
    subst hA
    by_cases hk : k = 0
    · subst hk
      go_enter Tryz.func143, Tryz.ntmps143
      go_wp2
      go_ret
      exact ⟨rfl, below_new _ _⟩
    · rw [decide_eq_false hk]
      go_enter Tryz.func143, Tryz.ntmps143
      go_wp2
      go_ret
      exact ⟨ret_bool (by simp [hk]), below_new _ _⟩
  · rw [show plB A k = decide (0 ≤ k ∧ k < 4096) by rw [plB, if_neg hA]]
    by_cases h0 : k < 0
    · rw [decide_eq_false (by omega)]
      go_enter Tryz.func143, Tryz.ntmps143
      go_wp2
      go_ret
      exact ⟨ret_bool (by first | rfl | (simp; omega)), below_new _ _⟩
    · by_cases h1 : k < 4096
      · rw [decide_eq_true (by omega)]
        go_enter Tryz.func143, Tryz.ntmps143
        go_wp2
        go_ret
        exact ⟨ret_bool (by first | rfl | (simp; omega)), below_new _ _⟩
      · rw [decide_eq_false (by omega)]
        go_enter Tryz.func143, Tryz.ntmps143
        go_wp2
        go_ret
        exact ⟨ret_bool (by first | rfl | (simp; omega)), below_new _ _⟩

set_option maxRecDepth 100000 in
set_option maxHeartbeats 1000000 in
theorem carries_any (b A : Int) (M : Bool) (D N : Int) (I : Bool) (a : Option Addr) (n c : Nat) (r : Int) (w : World) (hn : n * 8 ≤ 140737488351232) :
    Calls Tryz.prog 145 #[.agg #[.int .i64 b, .int .i64 A, .bool M, .int .i64 D, .int .i64 N, .bool I], .slice a n c, .int .i64 r] w fun e w' => e = .returned (.bool (caB N I M n r)) ∧ Below w.heap.size w w' := by
  by_cases hN : N = 0
  · rw [show caB N I M n r = decide (n = 0 ∧ r = 0) by rw [caB, if_pos hN]]
    subst hN
    by_cases h0 : n = 0
    · subst h0
      go_enter Tryz.func145, Tryz.ntmps145
      go_wp2
      go_ret
      exact ⟨ret_bool (by simp only [true_and]; rfl), below_new _ _⟩
    · rw [decide_eq_false (by omega)]
      go_enter Tryz.func145, Tryz.ntmps145
      go_wp2
      go_ret
      exact ⟨ret_bool (by first | rfl | (simp; omega)), below_new _ _⟩
  · cases I
    · cases M
      · rw [show caB N false false n r = decide (n = 0) by rw [caB, if_neg hN]; rfl]
        go_enter Tryz.func145, Tryz.ntmps145
        go_wp2
        go_ret
        exact ⟨ret_bool (by first | rfl | (by_cases h : n = 0 <;> simp [h])), below_new _ _⟩
      · rw [show caB N false true n r = decide (n = 1) by rw [caB, if_neg hN]; rfl]
        go_enter Tryz.func145, Tryz.ntmps145
        go_wp2
        go_ret
        exact ⟨ret_bool (by first | (simp; done) | (simp; omega) | (by_cases h : n = 1 <;> simp [h] <;> omega)), below_new _ _⟩
    · rw [show caB N true M n r = decide (r = 0) by rw [caB, if_neg hN]; rfl]
      go_enter Tryz.func145, Tryz.ntmps145
      go_wp2
      go_ret
      exact ⟨ret_bool (by first | rfl | (by_cases h : r = 0 <;> simp [h])), below_new _ _⟩

theorem fit_no {b A : Int} {M : Bool} {D N : Int} {I : Bool} {k : Int} {L : List Int} {r : Int} (h : knB b A M D N I = false ∨ plB A k = false ∨ fewB L = false ∨ rdB r = false ∨ caB N I M L.length r = false) : fitB b A M D N I k L r = false := by
  unfold fitB
  rcases h with h | h | h | h | h <;> simp [h]
theorem fit_yes {b A : Int} {M : Bool} {D N : Int} {I : Bool} {k : Int} {L : List Int} {r : Int} (h1 : knB b A M D N I = true) (h2 : plB A k = true) (h3 : fewB L = true) (h4 : rdB r = true) : fitB b A M D N I k L r = caB N I M L.length r := by
  unfold fitB
  simp [h1, h2, h3, h4]

theorem pl_nat {A k : Int} (h : plB A k = true) : ∃ j : Nat, k = (j : Int) ∧ j < 4096 := by
  unfold plB at h
  split at h
  · exact ⟨0, by simpa using h, by omega⟩
  · have := of_decide_eq_true h
    exact ⟨k.toNat, by omega, by omega⟩
theorem fit_parts {b A : Int} {M : Bool} {D N : Int} {I : Bool} {k : Int} {L : List Int} {r : Int} (h : fitB b A M D N I k L r = true) : knB b A M D N I = true ∧ plB A k = true ∧ fewB L = true ∧ rdB r = true ∧ caB N I M L.length r = true := by
  unfold fitB at h
  simpa [Bool.and_eq_true] using h
theorem known_parts {b A : Int} {M : Bool} {D N : Int} {I : Bool} (h : knB b A M D N I = true) : isOp b = true ∧ opA b = A ∧ opM b = M ∧ opD b = D ∧ opN b = N ∧ opI b = I := by
  unfold knB at h
  simpa [Bool.and_eq_true] using h
theorem mode_one {b A : Int} {M : Bool} {D N : Int} {I : Bool} {n : Nat} {r : Int} (h : knB b A M D N I = true) (hc : caB N I M n r = true) (hM : M = true) : 0 < n := by
  obtain ⟨h0, rfl, rfl, rfl, rfl, rfl⟩ := known_parts h
  have hb : b = 235 := by simpa [opM] using hM
  subst hb
  have : n = 1 := by simpa [caB, opN, opI, opM] using hc
  omega
end Go.Proofs.YtjhjghakfedeeaaGreat
