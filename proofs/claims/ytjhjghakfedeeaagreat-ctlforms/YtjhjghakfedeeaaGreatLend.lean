/-
  A slice of numbers that came in, and what it reads as. No conditions. A slice of acts that came in, and what it reads as: numbers, rows of numbers, texts. No conditions. A row lent with marked room behind it, whether it was kept, and a row spoilt: each by a contract. Condition: the row is no longer than a row that is read may be.
-/
import Derived.Test.YtjhjghakfedeeaaGreatPh
import Derived.Test.YtjhjghakfedeeaaGreatTold2
import Derived.Test.YtjhjghakfedeeaaGreatRows
import Derived.ProofKit
import Derived.OpenShut
import Derived.SizedLaws
import Derived.Deep.Slices
import Derived.Deep.Strs
import Derived.Test.YtjhjghakfedeeaaGreatCalls
import Derived.Test.YtjhjghakfedeeaaGreatParts
import Derived.Deep.AppendLies
import Derived.Laws.AppendOwnNone
/-! A slice of numbers that came in, and what it reads as. No conditions. -/
section
namespace Go.Proofs.YtjhjghakfedeeaaGreat
open Go.RowKit Plain
set_option linter.unusedVariables false

/-- A chip that nothing is under way in, nothing protected, no four lanes. -/
structure St.Still (s : St) (A : ByteArray) : Prop where
  rest : s.Rest
  A : s.A = A
  prot : s.prot = false
  quad : s.quad = false
theorem still_new (a : ByteArray) : (newSt a).Still a := ⟨rest_new a, rfl, rfl, rfl⟩
theorem obey_still {s : St} {A : ByteArray} (h : s.Still A) (k : Cmd) (hb : k.op.byte ≠ 1 ∧ k.op.byte ≠ 2 ∧ k.op.byte ≠ 32) : (s.obey k).Still A := by
  unfold St.obey
  split
  · exact ⟨rest_en h.rest true, h.A, h.prot, h.quad⟩
  · split
    · exact ⟨rest_en h.rest false, h.A, h.prot, h.quad⟩
    · split
      · exact ⟨⟨⟨h.rest.idle.sel, h.rest.idle.goes, h.rest.idle.k⟩, h.rest.left, by show (decide (0 < s.left) && s.erases) = false; rw [h.rest.left]; rfl⟩, h.A, h.prot, h.quad⟩
      · split
        · exact ⟨⟨⟨h.rest.idle.sel, h.rest.idle.goes, h.rest.idle.k⟩, h.rest.left, rfl⟩, h.A, h.prot, h.quad⟩
        · rw [if_neg hb.1, if_neg hb.2.1, if_neg hb.2.2]; exact h
theorem still_say {s : St} {A : ByteArray} (h : s.Still A) (b : Nat) (hb : b = 6 ∨ b = 4 ∨ b = 5 ∨ b = 159 ∨ b = 117 ∨ b = 122 ∨ b = 3 ∨ b = 0) (n : Nat) : (s.say (wordL [b] ++ List.replicate n 15)).Still A := by
  have hw : ∀ j, s.wait j = s := wait_zero (rest_busy h.rest)
  have ho : (s.wait 8).opFor b = opOf b := by rw [hw]; exact rest_opFor h.rest b (by omega)
  obtain ⟨k', m', e1, e2, e3⟩ := say_known h.rest.idle b (by omega) (by rw [ho]; exact opOf_mode b (by omega) (by omega)) (List.replicate n 15)
  rw [wordL_one, e1, hw]
  have hm : ({ s with made := m' } : St).Still A := ⟨⟨⟨h.rest.idle.sel, h.rest.idle.goes, h.rest.idle.k⟩, h.rest.left, h.rest.sus⟩, h.A, h.prot, h.quad⟩
  have hby : k'.op.byte ≠ 1 ∧ k'.op.byte ≠ 2 ∧ k'.op.byte ≠ 32 := by
    rw [e2, ho]
    rcases hb with rfl | rfl | rfl | rfl | rfl | rfl | rfl | rfl <;> decide
  split
  · exact obey_still hm k' hby
  · exact hm
theorem loss_plain {t : St} {A : ByteArray} (hA : t.A = A) (hl : t.left = 0) (hp : t.prot = false) (hq : t.quad = false) (m : ByteArray) : (t.loss m).Plain A ∧ (t.loss m).en = false ∧ (t.loss m).first = 0 ∧ (t.loss m).second = 0 := by
  have hP : (t.loss m).Plain A := ⟨⟨⟨rfl, rfl, rfl⟩, rfl, rfl⟩, by show (if 0 < t.left then t.on m else t.A) = A; rw [if_neg (by omega), hA], rfl, hp⟩
  refine ⟨hP, rfl, ?_, ?_⟩
  · rw [plain_first hP]; rfl
  · show bitIf t.quad 2 + bitIf false 128 = 0
    rw [hq]; rfl
theorem clock_picked {s : St} {A : ByteArray} (h : s.Still A) : (s.select.clock 14).1.A = A ∧ (s.select.clock 14).1.left = 0 ∧ (s.select.clock 14).1.prot = false ∧ (s.select.clock 14).1.quad = false ∧ (s.select.clock 14).2 = 15 := by
  have e0 : s.select = s.picked.setK (noCmd.mid 0 0) := by rw [select_idle h.rest.idle, mid_zero noCmd rfl rfl]; show s.picked = s.picked.setK noCmd; rw [← picked_k h.rest.idle]; rfl
  rw [e0, clock_mid (s := s.picked) (k := noCmd) (rest_picked h.rest) rfl rfl 0 0 14 (by decide)]
  exact ⟨h.A, h.rest.left, h.prot, h.quad, rfl⟩
theorem touch {s : St} (h : s.Idle) : s.select.deselect = s := by
  rw [select_idle h, show s.picked = s.picked.setK noCmd by rw [← picked_k h]; rfl, deselect_idle h noCmd (by decide), if_neg (by decide)]
theorem erase_runs {s : St} {A : ByteArray} (h : s.Plain A) (he : s.en = true) (a : Nat) (ha : a < 4096) : (s.say (wordL [32, 0, a / 256, a % 256])).Runs true a ⟨#[]⟩ A := by
  rw [say_erase h.rest a ha, begin_under _ _ _ he h.prot]
  exact runs_under h he _ _ _
theorem runs_wait {s : St} {er : Bool} {a : Nat} {d A : ByteArray} (h : s.Runs er a d A) : s.wait 8 = s.done := by
  have := wait_done h.sus (by rw [h.left]; decide)
  rw [h.left] at this
  exact this
theorem runs_on_erase {s : St} {a : Nat} {d A : ByteArray} (h : s.Runs true a d A) : s.on ⟨#[255]⟩ = erase A (a / 512) ⟨#[255]⟩ := by
  unfold St.on
  rw [h.er, h.wat, h.A]
  rfl
end Go.Proofs.YtjhjghakfedeeaaGreat
end

/-! A slice of acts that came in, and what it reads as: numbers, rows of numbers, texts. No conditions. -/
section
namespace Go.Proofs.YtjhjghakfedeeaaGreat
open Go.ChangeShapes Go.WideShapes Go.ChangeAt Go.RowKit Go.Deep
open Go.ChangeMaps (open_string shut_string)
open Plain
set_option linter.unusedVariables false

/-- One act: its number, its row, its mask. -/
structure Act1 where
  kind : Int
  row : Value
  xs : List Int
  mask : ByteArray
/-- The act D lies in three cells from place i of the row on. -/
structure DoAt (w : World) (g o : Nat) (D : Act1) : Prop where
  kind : w.cell? ⟨g, o, none⟩ = some (.int .i64 D.kind)
  row : w.cell? ⟨g, o + 1, none⟩ = some D.row
  mask : w.cell? ⟨g, o + 2, none⟩ = some (.string D.mask)
  came : ∃ a n c, D.row = .slice a n c ∧ Came w a n c D.xs ∧ n * 8 ≤ 140737488351232
  size : D.mask.size ≤ maxLen
/-- A slice of acts that came in. -/
def Dos (w : World) (a : Option Addr) (n cap : Nat) (L : List Act1) : Prop :=
  L.length = n ∧ n ≤ cap ∧ (0 < n → ∃ g o, a = some ⟨g, o, none⟩ ∧ ∀ i, i < n → ∃ D, L[i]? = some D ∧ DoAt w g (o + 3 * i) D)

theorem add_plain' {w : World} {x : Addr} {j : Nat} {v : Value} (h : w.cell? (x.add j) = some v) : w.cell? ⟨x.block, x.off + j, none⟩ = some v := by
  obtain ⟨b, off, spot⟩ := x
  unfold Addr.add at h
  split at h
  · rename_i e
    have hs := World.cell?_spot h
    have hs' : spot = none := hs
    subst hs'
    rw [e]
    exact h
  · exact h
theorem all_mem {H : Type} {P : Program} {e : TypeId} : ∀ {ds : List (DataW H)} {d : DataW H}, d ∈ ds → ∀ n ∈ d.weights P e, n ∈ DataW.weightsAll P e ds
  | d0 :: ds, d, hd, n, hn => by
    simp only [DataW.weightsAll, List.mem_append]
    rcases List.mem_cons.1 hd with rfl | hd
    · exact .inl hn
    · exact .inr (all_mem hd n hn)

end Go.Proofs.YtjhjghakfedeeaaGreat
end

/-! A row lent with marked room behind it, whether it was kept, and a row spoilt: each by a contract. Condition: the row is no longer than a row that is read may be. -/
section
namespace Go.Proofs.YtjhjghakfedeeaaGreat
open Go.RowKit
set_option linter.unusedVariables false

theorem own_short {w : World} {B g n cap : Nat} {L : List Int} {ys : List Value} (h : w.ownsRow B 3 1 (.slice (some ⟨g, 0, none⟩) (n + 2) cap) (n + 2) (L.map (Value.int .i64) ++ ys)) (hn : L.length = n) : Owns B w (.slice (some ⟨g, 0, none⟩) n cap) L := by
  subst hn
  refine ⟨by simp, .inr ?_⟩
  rcases h.2 with ⟨h', _⟩ | ⟨g', cap', cur, h', hb, hg, hn, hm, hs, ht⟩
  · simp at h'
  · simp only [Value.slice.injEq, Option.some.injEq, Addr.mk.injEq, and_true, true_and] at h'
    obtain ⟨rfl, rfl⟩ := h'
    refine ⟨g, cap, cur, rfl, hb, hg, by omega, hm, hs, ?_⟩
    have e : cur.toList.take (L.length * 1) = (cur.toList.take ((L.length + 2) * 1)).take L.length := by
      rw [List.take_take]; congr 1; omega
    rw [e, ht, List.take_left' (by simp)]
/-- A row whose block was not turned. -/
theorem owns_same {B g n c : Nat} {w w' : World} {L : List Int} (h : Owns B w (.slice (some ⟨g, 0, none⟩) n c) L) (k : w'.heap[g]? = w.heap[g]?) : Owns B w' (.slice (some ⟨g, 0, none⟩) n c) L := by
  refine ⟨h.1, ?_⟩
  rcases h.2 with h3 | ⟨g2, cap, cur, hv, hB, hg2, hr⟩
  · exact .inl h3
  · have e : g = g2 := by
      have := congrArg Value.ownBlock hv
      simpa [Value.ownBlock] using this
    subst e
    exact .inr ⟨g, cap, cur, hv, hB, k.trans hg2, hr⟩
theorem lent_same {g n c : Nat} {w w' : World} {L : List Int} (h : Lent w g n c L) (k : w'.heap[g]? = w.heap[g]?) (hg : g < w.heap.size) : Lent w' g n c L :=
  ⟨h.1, h.2.1, fun j hj => by rw [World.cell?_of_block (w := w) k]; exact h.2.2 j hj⟩
theorem came_some {u : World} {a : Option Addr} {n c : Nat} {L : List Int} (h : Came u a n c L) (hn : 0 < n) : ∃ g o, a = some ⟨g, o, none⟩ := by
  obtain ⟨a', cap, e, hr⟩ := h.reads
  simp only [Value.slice.injEq] at e
  obtain ⟨rfl, e2, -⟩ := e
  obtain ⟨g, o, e3, -⟩ := hr (by omega)
  exact ⟨g, o, e3⟩
theorem came_cell {u : World} {g o n c : Nat} {L : List Int} (h : Came u (some ⟨g, o, none⟩) n c L) (t : Nat) (ht : t < n) : u.cell? ⟨g, o + t, none⟩ = some (.int .i64 (L.getD t 0)) := by
  obtain ⟨a', cap, e, hr⟩ := h.reads
  simp only [Value.slice.injEq] at e
  obtain ⟨rfl, e2, -⟩ := e
  obtain ⟨g', o', e3, hc⟩ := hr (by omega)
  simp only [Option.some.injEq, Addr.mk.injEq, and_true] at e3
  obtain ⟨rfl, rfl⟩ := e3
  exact hc t (by omega)
end Go.Proofs.YtjhjghakfedeeaaGreat
end
