/-
  The document's answer for a byte that goes out on the lanes, by one contract for every argument. No conditions.
-/
import Derived.Test.YtgmocigpnmdolaaOut
import Derived.Test.YtgmocigpnmdolaaMask
import Derived.Deep.AppendLies
namespace Go.Proofs.Ytgmocigpnmdolaa
open Go.RowKit
set_option linter.unusedVariables false

set_option maxRecDepth 100000 in
set_option maxHeartbeats 1000000 in
theorem refOut_none (b k : Int) (w : World) (h : ¬ ((k = 1 ∨ k = 4) ∧ 0 ≤ b ∧ b ≤ 255)) :
    Calls Try.prog 10 #[.int .i64 b, .int .i64 k] w (Sends b k w) := by
  by_cases h1 : k = 1
  · subst h1
    have hb : b < 0 ∨ 255 < b := by omega
    clear h
    rcases hb with hb | hb
    all_goals
      go_enter Try.func10, Try.ntmps10
      go_wp2
      go_ret2
      exact sends_none (by omega) (Below.refl _ _)
  · by_cases h4 : k = 4
    · subst h4
      have hb : b < 0 ∨ 255 < b := by omega
      clear h
      rcases hb with hb | hb
      all_goals
        go_enter Try.func10, Try.ntmps10
        go_wp2
        go_ret2
        exact sends_none (by omega) (Below.refl _ _)
    · have H : Hid (¬ ((k = 1 ∨ k = 4) ∧ 0 ≤ b ∧ b ≤ 255)) := h
      have e1 : (k != 1) = true := by simpa using h1
      have e4 : (k != 4) = true := by simpa using h4
      clear h
      go_enter Try.func10, Try.ntmps10
      go_wp2
      go_ret2
      exact sends_none H.out (Below.refl _ _)

set_option maxRecDepth 100000 in
set_option maxHeartbeats 1000000 in
theorem refOut_four (b : Int) (w : World) (h : 0 ≤ b ∧ b ≤ 255) :
    Calls Try.prog 10 #[.int .i64 b, .int .i64 4] w fun e w' => ∃ g cap, e = .returned (.tuple #[.slice (some ⟨g, 0, none⟩) 2 cap, .int .i64 0]) ∧ Owns w.heap.size w' (.slice (some ⟨g, 0, none⟩) 2 cap) (fours b) ∧ Below w.heap.size w w' := by
  obtain ⟨h0, h1⟩ := h
  go_enter Try.func10, Try.ntmps10
  go_wp2
  go_ret2
  refine ⟨w.heap.size, 2, rfl, ?_, (Below.refl _ _).alloc (Nat.le_refl _) _⟩
  have e := Owns.lit (w := w) [b / 16, b % 16] 2 #[Value.int IntKind.i64 (b / 16), Value.int IntKind.i64 (bits BinOp.and IntKind.i64 b 15)] (by rw [and_15]; rfl) rfl (by unfold maxLen; omega)
  rw [show fours b = [b / 16, b % 16] from by unfold fours; rw [show b / 16 % 16 = b / 16 by omega]]
  exact e

theorem ones_take (b : Int) (p : Nat) (hp : p < 8) : (ones b).take (7 - p + 1) = (ones b).take (7 - p) ++ [b / 2 ^ p % 2] := by
  rcases (show p = 0 ∨ p = 1 ∨ p = 2 ∨ p = 3 ∨ p = 4 ∨ p = 5 ∨ p = 6 ∨ p = 7 by omega) with rfl | rfl | rfl | rfl | rfl | rfl | rfl | rfl <;> simp [ones]

set_option maxRecDepth 100000 in
set_option maxHeartbeats 1000000 in
theorem refOut_one (b : Int) (w : World) (h : 0 ≤ b ∧ b ≤ 255) :
    Calls Try.prog 10 #[.int .i64 b, .int .i64 1] w fun e w' => ∃ g cap, e = .returned (.tuple #[.slice (some ⟨g, 0, none⟩) 8 cap, .int .i64 0]) ∧ Owns w.heap.size w' (.slice (some ⟨g, 0, none⟩) 8 cap) (ones b) ∧ Below w.heap.size w w' := by
  obtain ⟨h0, h1⟩ := h
  obtain ⟨i0, hi, hz0, hz1, hz2⟩ := info_parts info3
  go_enter Try.func10, Try.ntmps10
  go_wp2
  go_loopw [6, 7] (fun v i wr => ∃ (m : Int) (M : List Int), -1 ≤ m ∧ m ≤ 7 ∧ i = .int .i64 m ∧ wr.ownsRow w.heap.size 3 1 v M.length (M.map (Value.int .i64)) ∧ Hid (M = (ones b).take (7 - m).toNat) ∧ Hid (Below w.heap.size w wr)) (fun _ i _ => (intOf i + 1).toNat)
  case atStart => exact ⟨7, [], by omega, by omega, rfl, World.ownsRow_nil _ _ _ _, by simp [Hid], Below.refl _ _⟩
  case round =>
    obtain ⟨m, M, hm0, hm1, rfl, hM, HM, HB⟩ := hrel
    by_cases hm : 0 ≤ m
    · obtain ⟨p, rfl⟩ : ∃ p : Nat, m = p := ⟨m.toNat, by omega⟩
      have hp : p < 8 := by omega
      obtain ⟨y, hy⟩ : ∃ y, bits BinOp.and IntKind.i64 (b / 2 ^ p) 1 = y := ⟨_, rfl⟩
      have HY : Hid (y = b / 2 ^ p % 2) := by rw [Hid, ← hy, and_1]
      have hlen : M.length ≤ 8 := by rw [HM.out, List.length_take]; show _ ≤ (ones b).length; exact Nat.min_le_right _ _
      have hsz : w.heap.size ≤ wr.heap.size := HB.out.size
      go_wp2_with (at_builtin; refine wpList_append_lies _ rfl _ _ 22 rfl w.heap.size 3 i0 (.int .i64 0) 1 8 Try.underlying22 hi hz0 hz1 hz2 rfl (by decide) _ _ _ rfl (hM.alloc _) ⟨wr.heap.size, 0, none⟩ 1 1 [.int .i64 y] rfl rfl ?c1 ?c2 (by decide) ?c3 ?c4 ?c5 (wr.heap.size + 1) (by simp) ?_)
      case c1 =>
        intro j u hj
        match j, hj with
        | 0, hj => simp at hj; subst hj; simp [Addr.add]
      case c2 => intro u hu; simp at hu; subst hu; rfl
      case c3 => unfold maxLen; omega
      case c4 => omega
      case c5 => simp; omega
      intro g cap w1 hown hgrow hat hlt
      have HO : Hid (w1.ownsRow w.heap.size 3 1 (.slice (some ⟨g, 0, none⟩) (M.length + 1) cap) (M ++ [y]).length ((M ++ [y]).map (Value.int .i64))) := by
        rw [Hid, List.map_append, List.length_append]; exact hown
      have HW : Hid (Below w.heap.size w w1) := (HB.out.alloc hsz _).grown hgrow (by simp; omega) fun k hk => (hM.lt k hk).1
      have HT : Hid (M ++ [y] = (ones b).take (7 - ((p : Int) - 1)).toNat) := by
        rw [Hid, HM.out, HY.out, show (7 - ((p : Int) - 1)).toNat = 7 - p + 1 by omega, show (7 - (p : Int)).toNat = 7 - p by omega]
        exact (ones_take b p hp).symm
      clear hown hgrow hat hlt hM hy HY HM HB hsz
      go_wp2
      go_roundw
      case rel => exact ⟨(p : Int) - 1, M ++ [y], by omega, by omega, by go_num, HO.out, HT, HW⟩
      case measure => simp [intOf]
    · have HL : Hid (M = ones b) := by rw [Hid, HM.out, show (7 - m).toNat = 8 by omega]; rfl
      have hl8 : M.length = 8 := by rw [HL.out]; rfl
      rw [hl8] at hM
      obtain ⟨g, cap, rfl, -, -⟩ := hM.form (by omega)
      have HO : Hid (wr.ownsRow w.heap.size 3 1 (.slice (some ⟨g, 0, none⟩) 8 cap) 8 (M.map (Value.int .i64))) := hM
      clear hM HM hl8
      go_wp2
      go_ret2
      exact ⟨g, cap, rfl, by rw [Owns, ← HL.out, show M.length = 8 from by rw [HL.out]; rfl]; exact HO.out, HB.out⟩

theorem sends_one {b : Int} {w w' : World} {g cap : Nat} (h : 0 ≤ b ∧ b ≤ 255) (ho : Owns w.heap.size w' (.slice (some ⟨g, 0, none⟩) 8 cap) (ones b)) (hb : Below w.heap.size w w') : Sends b 1 w (.returned (.tuple #[.slice (some ⟨g, 0, none⟩) 8 cap, .int .i64 0])) w' :=
  ⟨_, by rw [outE, if_pos (by omega)], by rw [outL, if_pos (by omega), if_pos rfl]; exact ho, hb⟩
theorem sends_four {b : Int} {w w' : World} {g cap : Nat} (h : 0 ≤ b ∧ b ≤ 255) (ho : Owns w.heap.size w' (.slice (some ⟨g, 0, none⟩) 2 cap) (fours b)) (hb : Below w.heap.size w w') : Sends b 4 w (.returned (.tuple #[.slice (some ⟨g, 0, none⟩) 2 cap, .int .i64 0])) w' :=
  ⟨_, by rw [outE, if_pos (by omega)], by rw [outL, if_pos (by omega), if_neg (by omega)]; exact ho, hb⟩
theorem out_any (b k : Int) (w : World) : Calls Try.prog 9 #[.int .i64 b, .int .i64 k] w (Sends b k w) := by
  by_cases h : (k = 1 ∨ k = 4) ∧ 0 ≤ b ∧ b ≤ 255
  · obtain ⟨rfl | rfl, h⟩ := h
    · exact (out_one b w h).mono fun e w' ⟨g, cap, he, ho, hb⟩ => by subst he; exact sends_one h ho hb
    · exact (out_four b w h).mono fun e w' ⟨g, cap, he, ho, hb⟩ => by subst he; exact sends_four h ho hb
  · exact out_none b k w h
theorem refOut_any (b k : Int) (w : World) : Calls Try.prog 10 #[.int .i64 b, .int .i64 k] w (Sends b k w) := by
  by_cases h : (k = 1 ∨ k = 4) ∧ 0 ≤ b ∧ b ≤ 255
  · obtain ⟨rfl | rfl, h⟩ := h
    · exact (refOut_one b w h).mono fun e w' ⟨g, cap, he, ho, hb⟩ => by subst he; exact sends_one h ho hb
    · exact (refOut_four b w h).mono fun e w' ⟨g, cap, he, ho, hb⟩ => by subst he; exact sends_four h ho hb
  · exact refOut_none b k w h
end Go.Proofs.Ytgmocigpnmdolaa
