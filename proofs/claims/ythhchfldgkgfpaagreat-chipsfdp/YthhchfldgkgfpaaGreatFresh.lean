/-
  What came on one lane as bytes, and a new chip over a text: each by a contract. Conditions: the rows are short.
-/
import Derived.Test.YthhchfldgkgfpaaGreatSays
import Derived.Test.YthhchfldgkgfpaaGreatWhole
namespace Go.Proofs.YthhchfldgkgfpaaGreat
open Go.RowKit Plain
set_option linter.unusedVariables false

set_option maxRecDepth 100000 in
set_option maxHeartbeats 1000000 in
theorem fresh_any (n : Nat) (s : ByteArray) (w : World) (hs : s.size ≤ maxLen) :
    Calls Tryz.prog 29 #[.string s] w fun e w' => ∃ b, e = .returned (.pointer (some ⟨b, 0, none⟩)) ∧ w.heap.size ≤ b ∧ Lies n b w' (newSt (wide s)) ∧ Below w.heap.size w w' := by
  unfold maxLen at hs
  have hget := get_ub s
  go_enter Tryz.func29, Tryz.ntmps29
  go_wp2_with (go_at_call 6; refine (refBlank_is _).mono ?_; rintro e w1 ⟨F, rfl, HF, hb⟩; obtain ⟨W1, cap, hcv, hcap, hby, hbel, hsz⟩ := to_bytes_of w1 F 4096 (full_size HF.out))
  go_loopw [4] (fun i wr => ∃ k : Nat, k ≤ 4096 ∧ i = .int .i64 k ∧ (0 < k → 0 < s.size) ∧ Bytes wr w1.heap.size 4096 (fun j => if j < k then ub s (j % s.size) else 255) ∧ Below w1.heap.size w1 wr) (fun i _ => 4096 - (intOf i).toNat)
  case atStart => exact ⟨0, Nat.zero_le _, rfl, fun h => absurd h (by omega), hby.congr (fun j hj => by rw [if_neg (by omega)]; exact full_ub HF.out hj), hbel⟩
  case round =>
    obtain ⟨k, hk, rfl, hpos, hbb, hbl⟩ := hrel
    clear hcv hby hbel
    have hfin : Below w.heap.size w wr := hb.trans (hbl.mono hb.size)
    by_cases hlt : k < 4096 ∧ 0 < s.size
    · obtain ⟨hlt, hp⟩ := hlt
      have hc := (hbb k hlt).1
      have hf := (hbb k hlt).2
      have hlm : k % s.size < s.size := Nat.mod_lt _ hp
      go_wp2
      go_roundw
      case rel => exact ⟨k + 1, by omega, by go_num, fun _ => hp, (hbb.set k hlt _).congr (fun j _ => wide_step s k j), hbl.setCell (Nat.le_refl _) _⟩
      case measure => simp [intOf]; omega
    · have hend : ∀ j, j < 4096 → (if j < k then ub s (j % s.size) else 255) = (if s.size = 0 then 255 else ub s (j % s.size)) := fun j hj => by
        by_cases h0 : s.size = 0
        · rw [if_pos h0, if_neg (by omega)]
        · rw [if_neg h0, if_pos (by omega)]
      obtain ⟨R, hbk, HR⟩ := hbb.back_is hend cap
      have HN : Hid (∀ u : World, Calls Tryz.prog 7 #[.string R] u fun e w' => ∃ b, e = .returned (.tuple #[.pointer (some ⟨b, 0, none⟩), .int .i64 0]) ∧ u.heap.size ≤ b ∧ Lies n b w' (newSt (wide s)) ∧ Below u.heap.size u w') := fun u => by
        rw [HR.out]; exact new_lies n (wide s) u (tab_size _ _)
      clear hend hbb
      by_cases h4 : k < 4096
      · have h0 : s.size = 0 := by omega
        have d1 : decide (0 < s.size) = false := decide_eq_false (by omega)
        go_wp2_with (go_at_call 7; refine (HN.out _).mono ?_; rintro e w2 ⟨b, rfl, hbb, hl, b2⟩)
        go_ret
        exact ⟨b, rfl, Nat.le_trans hfin.size hbb, hl, below_then hfin b2⟩
      · have d1 : decide ((k : Int) < 4096) = false := decide_eq_false (by omega)
        go_wp2_with (go_at_call 7; refine (HN.out _).mono ?_; rintro e w2 ⟨b, rfl, hbb, hl, b2⟩)
        go_ret
        exact ⟨b, rfl, Nat.le_trans hfin.size hbb, hl, below_then hfin b2⟩

/-- The first j bits from clock i on. -/
def laneTo (L : List Nat) (i : Nat) : Nat → Nat
  | 0 => 0
  | j + 1 => laneTo L i j * 2 + L.getD (i + j) 0 / 2 % 2
def bytesTo (L : List Nat) (f m : Nat) : List Nat := (List.range m).map fun t => laneTo L (f + 8 * t) 8
theorem bytesTo_succ (L : List Nat) (f m : Nat) : bytesTo L f (m + 1) = bytesTo L f m ++ [laneTo L (f + 8 * m) 8] := by
  unfold bytesTo; rw [List.range_succ, List.map_append]; rfl
theorem bytesTo_length (L : List Nat) (f m : Nat) : (bytesTo L f m).length = m := by simp [bytesTo]
theorem laneTo_lt (L : List Nat) (i j : Nat) (hj : j ≤ 8) : laneTo L i j < 2 ^ j := by
  induction j with
  | zero => show 0 < 1; decide
  | succ j ih =>
    have := ih (by omega)
    show laneTo L i j * 2 + _ < 2 ^ (j + 1)
    rw [Nat.pow_succ]
    omega
theorem lane_val (x y : Nat) (hx : x < 256) : bits .or .i64 ((x : Int) * 2) (bits .and .i64 ((y : Int) / 2) 1) = ((x * 2 + y / 2 % 2 : Nat) : Int) := by
  rw [and_1, show ((y : Int) / 2) % 2 = ((y / 2 % 2 : Nat) : Int) by simp, or_two _ _ (by omega) (by omega) (by omega) (by omega)]
  simp

set_option maxRecDepth 100000 in
set_option maxHeartbeats 4000000 in
theorem bytesOf_any (v : Value) (L : List Nat) (f m : Nat) (w : World) (hv : Reads w v (nums L)) (hf : L.length = f + 8 * m) (hL : L.length ≤ 40000) (hb : ∀ x ∈ L, x < 16) :
    Calls Tryz.prog 34 #[v, .int .i64 (f : Int)] w fun e w' => ∃ a c, e = .returned (.slice a m c) ∧ Hid (Owns w.heap.size w' (.slice a m c) (nums (bytesTo L f m))) ∧ Below w.heap.size w w' := by
  obtain ⟨i0, hi, hz0, hz1, hz2⟩ := info_parts info3
  obtain ⟨a, cap, rfl, hr⟩ := hv
  rw [nums_length] at hr ⊢
  have HR : Hid (0 < L.length → ∃ g o, a = some ⟨g, o, none⟩ ∧ ∀ j, j < L.length → w.cell? ⟨g, o + j, none⟩ = some (.int .i64 ((nums L).getD j 0))) := hr
  clear hr
  obtain ⟨N, HN⟩ : ∃ N, Hid (L.length = N) := ⟨_, rfl⟩
  rw [HN.out] at hf hL ⊢
  have Hf : Hid (N = f + 8 * m) := hf
  clear hf
  have hfN : f ≤ N := by have := Hf.out; omega
  go_enter Tryz.func34, Tryz.ntmps34
  go_wp2
  go_loopw [5, 6] (fun v i wr => ∃ (t : Nat) (M : List Nat), t ≤ m ∧ i = .int .i64 ((f + 8 * t : Nat) : Int) ∧ wr.ownsRow w.heap.size 3 1 v (nums M).length ((nums M).map (Value.int .i64)) ∧ Hid (M = bytesTo L f t) ∧ Hid (Below w.heap.size w wr)) (fun _ i _ => (N - intOf i).toNat)
  case atStart => exact ⟨0, [], by omega, rfl, World.ownsRow_nil _ _ _ _, rfl, Below.refl _ _⟩
  case round =>
    obtain ⟨t, M, ht, rfl, hM, HM, HB⟩ := hrel
    have HMl : Hid ((nums M).length = t) := by show _ = _; rw [nums_length, HM.out, bytesTo_length]
    have hMl : (nums M).length ≤ 50000 := by have := HMl.out; have := Hf.out; omega
    obtain ⟨q, Hq⟩ : ∃ q, Hid (f + 8 * t = q) := ⟨_, rfl⟩
    rw [Hq.out]
    have hqN : q = f + 8 * t := Hq.out.symm
    by_cases hlt : t < m
    · obtain ⟨g, o, rfl, hc⟩ := HR.out (by rw [HN.out]; have := Hf.out; omega)
      have hq8 : q + 8 ≤ N := by have := Hf.out; omega
      have hcell : ∀ (wr : World), Below w.heap.size w wr → ∀ j, j < N → wr.cell? ⟨g, o + j, none⟩ = some (.int .i64 ((L.getD j 0 : Nat) : Int)) := fun wr hB j hj => by
        have h1 := hc j (by rw [HN.out]; exact hj)
        rw [nums_getD] at h1
        rw [hB.cell (cell_lt h1)]; exact h1
      have HC : Hid (∀ (wr : World), Below w.heap.size w wr → ∀ j, j < N → wr.cell? ⟨g, o + j, none⟩ = some (.int .i64 ((L.getD j 0 : Nat) : Int))) := hcell
      have HMo : Hid (wr.ownsRow w.heap.size 3 1 u5 (nums M).length ((nums M).map (Value.int .i64))) := hM
      clear hc hcell HR hM hqN
      go_wp2_with fail
      go_loopw [7, 8] (fun x j ws => ∃ (r : Nat), r ≤ 8 ∧ j = .int .i64 r ∧ x = .int .i64 ((laneTo L q r : Nat) : Int) ∧ wr = ws) (fun _ j _ => (8 - intOf j).toNat)
      case atStart => exact ⟨0, by omega, rfl, rfl, rfl⟩
      case round =>
        obtain ⟨r, hr8, rfl, rfl, rfl⟩ := hrel
        by_cases hr : r < 8
        · have ck := HC.out _ HB.out (q + r) (by omega)
          obtain ⟨y, Hy⟩ : ∃ y, Hid (L.getD (q + r) 0 = y) := ⟨_, rfl⟩
          rw [Hy.out] at ck
          have ck' : wr.cell? ⟨g, o + (q + r), none⟩ = some (.int .i64 (y : Int)) := ck
          obtain ⟨x, Hx⟩ : ∃ x, Hid (laneTo L q r = x) := ⟨_, rfl⟩
          have hx : x < 256 := by rw [← Hx.out]; exact Nat.lt_of_lt_of_le (laneTo_lt L q r (by omega)) (by have := pow_le_of (a := r) (b := 8) (by omega); exact this)
          have hy : y < 16 := by
            rw [← Hy.out, List.getD_eq_getElem?_getD]
            cases e : L[q + r]? with
            | none => decide
            | some z => exact hb z (List.mem_of_getElem? e)
          have hval := lane_val x y hx
          have HT : Hid (laneTo L q (r + 1) = x * 2 + y / 2 % 2) := by show laneTo L q r * 2 + _ = _; rw [Hx.out, Hy.out]
          rw [Hx.out]
          clear ck
          go_wp2
          go_roundw
          case rel => exact ⟨r + 1, by omega, by go_num, by rw [HT.out]; go_num, by first | rfl | trivial⟩
          case measure => simp [intOf]; omega
        · have hr' : r = 8 := by omega
          subst hr'
          obtain ⟨y, Hy⟩ : ∃ y, Hid (laneTo L q 8 = y) := ⟨_, rfl⟩
          rw [Hy.out]
          have hM2 := HMo.out
          have hsz : w.heap.size ≤ wr.heap.size := HB.out.size
          have HT : Hid (M ++ [y] = bytesTo L f (t + 1)) := by show _ = _; rw [bytesTo_succ, Hq.out, Hy.out, HM.out]
          go_wp2_with (at_builtin; refine wpList_append_lies _ rfl _ _ 33 rfl w.heap.size 3 i0 (.int .i64 0) 1 8 Tryz.underlying33 hi hz0 hz1 hz2 rfl (by decide) _ _ _ rfl (hM2.alloc _) ⟨wr.heap.size, 0, none⟩ 1 1 [.int .i64 (y : Int)] rfl rfl ?c1 ?c2 (by decide) ?c3 ?c4 ?c5 (wr.heap.size + 1) (by simp) ?_)
          case c1 =>
            intro j u hj
            match j, hj with
            | 0, hj => simp at hj; subst hj; simp [Addr.add]
          case c2 => intro u hu; simp at hu; subst hu; rfl
          case c3 => unfold maxLen; omega
          case c4 => omega
          case c5 => simp; omega
          intro g2 cap2 w3 hown hgrow hat hlt2
          have HW : Hid (w3.ownsRow w.heap.size 3 1 (.slice (some ⟨g2, 0, none⟩) ((nums M).length + 1) cap2) (nums (M ++ [y])).length ((nums (M ++ [y])).map (Value.int .i64))) := by
            rw [Hid, nums_append, List.map_append, List.length_append]; exact hown
          have HBl : Hid (Below w.heap.size w w3) := (HB.out.alloc hsz _).grown hgrow (by simp; omega) fun k hk => (hM2.lt k hk).1
          clear hown hgrow hat hlt2 hM2 hsz
          go_wp2
          go_roundw
          case rel => exact ⟨t + 1, M ++ [y], by omega, by have := Hq.out; congr 1; omega, HW.out, HT, HBl⟩
          case measure => simp [intOf]; omega
    · have htm : t = m := by omega
      have HT : Hid (M = bytesTo L f m) := by show _ = _; rw [HM.out, htm]
      rw [HMl.out, htm] at hM
      have HMo : Hid (wr.ownsRow w.heap.size 3 1 u5 m ((nums M).map (Value.int .i64))) := hM
      have HF : Hid (∃ a c, u5 = .slice a m c) := by
        obtain ⟨_, ⟨e1, h2⟩ | ⟨g, cp, cur, e1, _⟩⟩ := hM
        · exact ⟨none, 0, by rw [e1, h2]⟩
        · exact ⟨_, cp, e1⟩
      have hkd : decide (((q : Int) + 8) ≤ (N : Int)) = false := decide_eq_false (by have := Hf.out; omega)
      have hq40 : q ≤ 40000 := by have := Hf.out; omega
      clear hM hMl htm hqN
      go_wp2
      go_ret
      obtain ⟨a, c, e⟩ := HF.out
      refine ⟨a, c, congrArg _ e, ?_, HB.out⟩
      show wr.ownsRow _ _ _ _ _ _
      have hl2 : (nums M).length = m := by rw [nums_length, HT.out, bytesTo_length]
      rw [← HT.out, hl2, ← e]
      exact HMo.out
end Go.Proofs.YthhchfldgkgfpaaGreat
