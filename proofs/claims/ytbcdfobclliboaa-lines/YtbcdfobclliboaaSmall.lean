/-
  The small calls of package line (empty, whole, slices.Index, slices.Contains, strings.Clone), each by a contract for every argument. Conditions: those of each statement.
-/
import Derived.Test.YtbcdfobclliboaaInts
import Derived.Lib.Strings
import Derived.Lib.Walk
import Derived.Lib.BufferWrite
import Derived.Lib.UnsafeStr
import Derived.Laws.MakeOwn
namespace Go.Proofs.Ytbcdfobclliboaa
open Go.RowKit Plain
set_option linter.unusedVariables false

theorem num_any (n : Int) (w : World) :
    Calls Try.prog 14 #[.int .i64 n] w fun e w' => e = .returned (.int .i64 n) ∧ w = w' := by
  go_enter Try.func14, Try.ntmps14
  go_wp2
  go_ret
  exact ⟨rfl, rfl⟩

theorem size_zero {t : ByteArray} (h : t.size = 0) : t = ⟨#[]⟩ := by
  apply ByteArray.ext
  exact Array.eq_empty_of_size_eq_zero h

theorem isEmpty_is (s : ByteArray) : s.toList.isEmpty = decide (s = ByteArray.empty) := by
  rw [isEmpty_iff]
  refine decide_eq_decide.2 ⟨fun h => size_zero h, fun h => by rw [h]; rfl⟩
theorem empty_any (a : Int) (t : ByteArray) (w : World) :
    Calls Try.prog 32 #[.int .i64 a, .string t] w fun e w' => e = .returned (.bool (emB a t)) ∧ w = w' := by
  go_enter Try.func32, Try.ntmps32
  go_wp2
  all_goals go_ret
  all_goals refine ⟨ret_bool ?_, rfl⟩
  all_goals (unfold emB; rw [Bool.eq_iff_iff]; simp_all [isEmpty_is])

theorem whole_any (a : Int) (t : ByteArray) (w : World) (ht : t.size ≤ maxLen) :
    Calls Try.prog 23 #[.int .i64 a, .string t] w fun e w' => e = .returned (.bool (whB a t)) ∧ w = w' := by
  go_enter Try.func23, Try.ntmps23
  go_wp2
  all_goals go_ret
  all_goals refine ⟨ret_bool ?_, rfl⟩
  all_goals (unfold whB atB; rw [Bool.eq_iff_iff]; simp; omega)

theorem lineAt_any (a : Int) (w : World) :
    Calls Try.prog 26 #[.int .i64 a] w fun e w' => e = .returned (.bool (atB a)) ∧ w = w' := by
  go_enter Try.func26, Try.ntmps26
  go_wp2
  all_goals go_ret
  all_goals refine ⟨ret_bool ?_, rfl⟩
  all_goals (unfold atB; rw [Bool.eq_iff_iff]; simp; omega)

set_option maxHeartbeats 4000000 in
set_option maxRecDepth 100000 in
theorem slclone_any (s : ByteArray) (w : World) (hlim : s.size ≤ 16) :
    Calls Try.prog 34 #[.string s] w fun e w' => e = .returned (.string s) ∧ Below w.heap.size w w' := by
  have hl8 : s.size ≤ 281474976710656 := by omega
  by_cases h0 : s.size = 0
  · have hs : s = ⟨#[]⟩ := size_zero h0
    subst hs
    go_enter Try.func34, Try.ntmps34
    go_wp2
    go_ret
    exact ⟨rfl, Below.refl _ _⟩
  · have hb5 : (Try.prog.info? 5).map (fun i => (i.zero, i.size, i.bytes)) = some (some (.int .u8 0), 1, 1) := by kernel_rfl
    obtain ⟨i0, hi, hz0, hz1, hz2⟩ := info_parts hb5
    have hinfo : (Try.prog.info? 5).map (·.size) = some 1 := by rw [hi]; simp [hz1]
    have hco : Try.prog.cellsOf 5 = 1 := by simp [Program.cellsOf, hi, hz1]
    obtain ⟨M, hM⟩ : ∃ M, M = madeCells (Value.int .u8 0).cells (((s.size : Nat) : Int).toNat * i0.size) := ⟨_, rfl⟩
    have hMs : M.size = s.size := by rw [hM, size_madeCells, hz1]; simp
    have hmk : ∀ W : World, (Instr.makeSlice 59 (.int .i64 (s.size : Int)) (.int .i64 (s.size : Int))).run Try.prog W = .ok (.slice (some ⟨W.heap.size, 0, none⟩) s.size s.size) (W.alloc (.cells M 5)) := fun W => by
      have h := run_make (P := Try.prog) W 59 5 i0 (.int .u8 0) Try.underlying59 hi hz0 .i64 .i64 (s.size : Int) (s.size : Int) (by omega) (by omega) (by rw [hz2]; omega) (by omega)
      rw [← hM] at h
      simpa using h
    clear hM
    have hcp := Lib.run_copy_row_string (P := Try.prog) (w.alloc (.cells M 5)) 59 9 3 5 w.heap.size 0 s.size s.size s M 5 Try.underlying59 hinfo (heap_alloc_new w _) (Nat.le_refl _) (by omega)
    obtain ⟨Y, hY⟩ : ∃ Y, Y = (M.toList.take 0 ++ Lib.byteCells s.data.toList ++ M.toList.drop (0 + s.size)).toArray := ⟨_, rfl⟩
    rw [← hY] at hcp
    have hYl : Y.toList = Lib.byteCells s.data.toList := by
      rw [hY, List.toList_toArray, List.take_zero, List.nil_append, List.drop_of_length_le (by rw [Array.length_toList]; omega), List.append_nil]
    have hYs : Y.size = s.size := by rw [← Array.length_toList, hYl, Lib.byteCells_length, ← Lib.size_eq]
    have hgY : ((w.alloc (.cells M 5)).setRow w.heap.size Y).heap[w.heap.size]? = some (.cells Y 5 (0, 0)) := setRow_heap _ _ M _ 5 (0, 0) (heap_alloc_new w _)
    have hne : s.data.toList ≠ [] := fun e => h0 (by rw [Lib.size_eq, e]; rfl)
    have hUS := Lib.run_unsafeString_row (P := Try.prog) ((w.alloc (.cells M 5)).setRow w.heap.size Y) 62 3 9 5 Try.underlying62 hco w.heap.size Y.size (by unfold World.shape?; rw [hgY]) s.data.toList hne (by rw [← Lib.size_eq]; omega) (by rw [← Lib.size_eq]; omega)
      (fun j x hx => Lib.cells_of_row hgY Y.size j _ (by rw [List.take_of_length_le (by rw [Array.length_toList]; exact Nat.le_refl _), hYl]; simp [Lib.byteCells, hx]))
    rw [← Lib.size_eq] at hUS
    clear hY
    go_enter Try.func34, Try.ntmps34
    go_wp2
    go_ret
    have hb1 : Below w.heap.size w (w.alloc (.cells M 5)) := (Below.refl _ w).alloc (Nat.le_refl _) _
    have hb2 : Below w.heap.size (w.alloc (.cells M 5)) ((w.alloc (.cells M 5)).setRow w.heap.size Y) := ⟨rfl, rfl, rfl, by simp, fun k hk => setRow_other _ _ _ _ (by omega)⟩
    exact ⟨rfl, Lib.below_freeze (hb1.trans hb2) (p := ⟨w.heap.size, 0, none⟩) (Nat.le_refl _) _⟩

theorem clone_any (s : ByteArray) (w : World) (hlim : s.size ≤ 16) :
    Calls Try.prog 25 #[.string s] w fun e w' => e = .returned (.string s) ∧ Below w.heap.size w w' := by
  go_enter Try.func25, Try.ntmps25
  go_wp2_with (go_at_call 34; refine (slclone_any s _ hlim).mono ?_; rintro e w' ⟨rfl, hb⟩)
  go_ret
  exact ⟨rfl, hb⟩

theorem mul_any (w : World) :
    Calls Try.prog 35 #[.int .u64 1, .int .u64 2] w fun e w' => e = .returned (.tuple #[.int .u64 0, .int .u64 2]) ∧ w = w' := by
  go_enter Try.func35, Try.ntmps35
  go_wp2
  go_ret2
  exact ⟨by kernel_rfl, rfl⟩

theorem ixI_nil (x : Int) : ixI [] x = -1 := rfl
theorem ixI_one (a x : Int) : ixI [a] x = if a = x then 0 else -1 := by
  unfold ixI
  rw [ixI_nil, if_pos (show (-1 : Int) < 0 by decide)]
theorem ixI_two (a b x : Int) : ixI [a, b] x = if a = x then 0 else if b = x then 1 else -1 := by
  unfold ixI
  rw [ixI_one]
  by_cases h : b = x
  · rw [if_pos h, if_pos h]; rfl
  · rw [if_neg h, if_neg h]; rfl

theorem ixI_at {L : List Int} {x : Int} (k : Nat) (hk : k < L.length) (hx : L.getD k 0 = x) (h : ∀ j, j < k → L.getD j 0 ≠ x) : ixI L x = (k : Int) := by
  induction L generalizing k with
  | nil => simp at hk
  | cons a M ih =>
    unfold ixI
    match k, hk, hx, h with
    | 0, _, hx, _ => rw [if_pos (by simpa using hx)]; rfl
    | k + 1, hk, hx, h =>
      have h0 := h 0 (by omega)
      rw [if_neg (by simpa using h0), ih k (by simp at hk; omega) (by simpa using hx) (fun j hj => by have := h (j + 1) (by omega); simpa using this), if_neg (by omega)]
      omega
theorem ixI_no {L : List Int} {x : Int} (h : ∀ j, j < L.length → L.getD j 0 ≠ x) : ixI L x = -1 := by
  induction L with
  | nil => rfl
  | cons a M ih =>
    unfold ixI
    have h0 := h 0 (by simp)
    rw [if_neg (by simpa using h0), ih fun j hj => by have := h (j + 1) (by simp; omega); simpa using this]
    rfl
theorem ints_at {L : List Int} {k : Nat} (h : k < L.length) : (ints L)[k]? = some (.int .i64 (L.getD k 0)) := by
  rw [List.getElem?_map, List.getD_eq_getElem?_getD, List.getElem?_eq_getElem h]; rfl
theorem txts_at {T : List ByteArray} {k : Nat} (h : k < T.length) : (txts T)[k]? = some (.string (T.getD k ByteArray.empty)) := by
  rw [List.getElem?_map, List.getD_eq_getElem?_getD, List.getElem?_eq_getElem h]; rfl

set_option maxHeartbeats 1000000 in
theorem index_any (v : Value) (L : List Int) (x : Int) (w : World) (h : RV w v (ints L)) (hl : L.length * 8 ≤ 140737488351232) :
    Calls Try.prog 24 #[v, .int .i64 x] w fun e w' => e = .returned (.int .i64 (ixI L x)) ∧ w = w' := by
  obtain ⟨a, cap, rfl, hc⟩ := h
  rw [List.length_map] at hc ⊢
  obtain ⟨n, hn⟩ : ∃ n, n = L.length := ⟨_, rfl⟩
  rw [← hn] at hl hc ⊢
  have HN : Hid (n = L.length) := hn
  by_cases h0 : n = 0
  · subst h0
    rw [List.length_eq_zero_iff.1 hn.symm]
    clear hc hn HN
    go_enter Try.func24, Try.ntmps24
    go_wp2
    refine wp_loop_rounds 1 ?_
    rw [rounds_succ]
    go_wp2
    go_ret
    exact ⟨rfl, rfl⟩
  · obtain ⟨g, o, rfl, hg0⟩ := hc (by omega)
    have hg : ∀ j, j < n → w.cell? ⟨g, o + j, none⟩ = some (.int .i64 (L.getD j 0)) := fun j hj => hg0 j _ (ints_at (by rw [← hn]; exact hj))
    clear hc hg0 hn
    go_enter Try.func24, Try.ntmps24
    go_wp2
    go_loopw [5, 8] (fun s i wr => ∃ k : Nat, k ≤ n ∧ i = .int .i64 k ∧ (∀ j, j < k → L.getD j 0 ≠ x) ∧ Hid (w = wr)) (fun _ i _ => n - (intOf i).toNat)
    case atStart => exact ⟨0, Nat.zero_le _, rfl, fun j hj => by omega, rfl⟩
    case round =>
      obtain ⟨k, hk, rfl, hs, HW⟩ := hrel
      have HS : Hid (∀ j, j < k → L.getD j 0 ≠ x) := hs
      by_cases hlt : k < n
      · obtain ⟨y, hy⟩ : ∃ y, y = L.getD k 0 := ⟨_, rfl⟩
        have c1 : wr.cell? ⟨g, o + k, none⟩ = some (.int .i64 y) := by rw [hy, ← HW.out]; exact hg k (by omega)
        have HX : Hid (y = L.getD k 0) := hy
        clear hs hg hy
        by_cases hxy : x = y
        · have e1 : (x == y) = true := by simpa using hxy
          have HE : Hid (ixI L x = (k : Int)) := ixI_at k (by rw [← HN.out]; exact hlt) (by rw [← HX.out, hxy]) HS.out
          go_wp2
          go_ret
          exact ⟨ret_int HE.out.symm, HW.out⟩
        · have e1 : (x == y) = false := by simpa using hxy
          go_wp2
          go_roundw
          case rel => exact ⟨k + 1, by omega, by go_num, fun j hj => by
            rcases Nat.lt_or_eq_of_le (Nat.le_of_lt_succ hj) with h | rfl
            · exact HS.out j h
            · exact fun h => hxy (h.symm.trans HX.out.symm), HW.out⟩
          case measure => simp [intOf]; omega
      · have HE : Hid (ixI L x = -1) := ixI_no fun j hj => hs j (by rw [← HN.out] at hj; omega)
        clear hs hg
        go_wp2
        go_ret
        exact ⟨ret_int HE.out.symm, HW.out⟩

theorem ixI_mem (L : List Int) (x : Int) : decide (0 ≤ ixI L x) = decide (x ∈ L) := by
  induction L with
  | nil => rfl
  | cons a M ih =>
    rw [decide_eq_decide] at ih ⊢
    unfold ixI
    rw [List.mem_cons]
    by_cases h : a = x
    · rw [if_pos h]; exact ⟨fun _ => .inl h.symm, fun _ => by decide⟩
    · rw [if_neg h]
      by_cases h2 : ixI M x < 0
      · rw [if_pos h2]
        refine ⟨fun h => by omega, fun h' => ?_⟩
        rcases h' with h' | h'
        · exact absurd h'.symm h
        · have := ih.2 h'; omega
      · rw [if_neg h2]
        exact ⟨fun _ => .inr (ih.1 (by omega)), fun _ => by omega⟩
theorem contains_any (v : Value) (L : List Int) (x : Int) (w : World) (h : RV w v (ints L)) (hl : L.length * 8 ≤ 140737488351232) :
    Calls Try.prog 33 #[v, .int .i64 x] w fun e w' => e = .returned (.bool (decide (x ∈ L))) ∧ w = w' := by
  have HM := ixI_mem L x
  have H : Hid (RV w v (ints L)) := h
  clear h
  go_enter Try.func33, Try.ntmps33
  go_wp2_with fail
  refine (index_any v L x _ H.out hl).mono ?_
  rintro e w1 ⟨rfl, rfl⟩
  obtain ⟨y, Hy⟩ : ∃ y, Hid (ixI L x = y) := ⟨_, rfl⟩
  have HM2 : Hid (decide (0 ≤ ixI L x) = decide (x ∈ L)) := HM
  clear HM
  go_wp2
  all_goals go_ret
  all_goals refine ⟨ret_bool ?_, rfl⟩
  all_goals rw [← HM2.out]
end Go.Proofs.Ytbcdfobclliboaa
