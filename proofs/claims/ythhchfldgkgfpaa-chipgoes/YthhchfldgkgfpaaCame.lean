/-
  A slice of numbers that came in, and what it reads as. No conditions.
-/
import Derived.Test.YthhchfldgkgfpaaTold2
namespace Go.Proofs.Ythhchfldgkgfpaa
open Go.RowKit Plain
set_option linter.unusedVariables false

/-- A slice that came in reads as the numbers L. -/
def Came (w : World) (a : Option Addr) (n cap : Nat) (L : List Int) : Prop :=
  L.length = n ∧ ((a = none ∧ n = 0 ∧ cap = 0) ∨ ∃ x, a = some x ∧ n ≤ cap ∧ ∀ j, j < n → w.cell? (x.add j) = some (.int .i64 (L.getD j 0)))

theorem Came.reads {w : World} {a : Option Addr} {n cap : Nat} {L : List Int} (h : Came w a n cap L) : Reads w (.slice a n cap) L := by
  obtain ⟨rfl, ⟨rfl, h0, rfl⟩ | ⟨x, rfl, hnc, hc⟩⟩ := h
  · exact ⟨none, 0, rfl, fun h => by omega⟩
  · refine ⟨some x, cap, rfl, fun h => ?_⟩
    obtain ⟨b, off, spot⟩ := x
    have hspot : spot = none := by simpa [Addr.add] using World.cell?_spot (hc 0 h)
    subst hspot
    refine ⟨b, off, rfl, fun j hj => ?_⟩
    have h1 := hc j hj
    rcases Nat.eq_zero_or_pos j with rfl | hp
    · simpa [Addr.add] using h1
    · rw [Addr.add, if_neg (by omega)] at h1
      exact h1

theorem came_of {w : World} {x : Addr} {n cap : Nat} {zs : List Int} (hl : n ≤ cap) (hz : zs.length = cap) (hc : ∀ i, i < zs.length → w.cell? (x.add i) = some (.int .i64 (zs.getD i 0))) : Came w (some x) n cap (zs.take n) := by
  refine ⟨by rw [List.length_take]; omega, .inr ⟨x, rfl, hl, fun j hj => ?_⟩⟩
  rw [hc j (by omega), List.getD_eq_getElem?_getD, List.getD_eq_getElem?_getD, List.getElem?_take, if_pos hj]

/-- A chip that nothing is under way in, nothing protected, no four lanes. -/
structure St.Still (s : St) (A : ByteArray) : Prop where
  rest : s.Rest
  A : s.A = A
  prot : s.prot = false
  quad : s.quad = false
theorem still_new (a : ByteArray) : (newSt a).Still a := ⟨rest_new a, rfl, rfl, rfl⟩
theorem obey_still {s : St} {A : ByteArray} (h : s.Still A) (k : Cmd) (hb : k.op.byte ≠ 1 ∧ k.op.byte ≠ 2 ∧ k.op.byte ≠ 32) : (s.obey k).Still A := by
  unfold St.obey
  split
  · exact ⟨rest_en h.rest true, h.A, h.prot, h.quad⟩
  · split
    · exact ⟨rest_en h.rest false, h.A, h.prot, h.quad⟩
    · split
      · exact ⟨⟨⟨h.rest.idle.sel, h.rest.idle.goes, h.rest.idle.k⟩, h.rest.left, by show (decide (0 < s.left) && s.erases) = false; rw [h.rest.left]; rfl⟩, h.A, h.prot, h.quad⟩
      · split
        · exact ⟨⟨⟨h.rest.idle.sel, h.rest.idle.goes, h.rest.idle.k⟩, h.rest.left, rfl⟩, h.A, h.prot, h.quad⟩
        · rw [if_neg hb.1, if_neg hb.2.1, if_neg hb.2.2]; exact h
theorem still_say {s : St} {A : ByteArray} (h : s.Still A) (b : Nat) (hb : b = 6 ∨ b = 4 ∨ b = 5 ∨ b = 159 ∨ b = 117 ∨ b = 122 ∨ b = 3 ∨ b = 0) (n : Nat) : (s.say (wordL [b] ++ List.replicate n 15)).Still A := by
  have hw : ∀ j, s.wait j = s := wait_zero (rest_busy h.rest)
  have ho : (s.wait 8).opFor b = opOf b := by rw [hw]; exact rest_opFor h.rest b (by omega)
  obtain ⟨k', m', e1, e2, e3⟩ := say_known h.rest.idle b (by omega) (by rw [ho]; exact opOf_mode b (by omega) (by omega)) (List.replicate n 15)
  rw [wordL_one, e1, hw]
  have hm : ({ s with made := m' } : St).Still A := ⟨⟨⟨h.rest.idle.sel, h.rest.idle.goes, h.rest.idle.k⟩, h.rest.left, h.rest.sus⟩, h.A, h.prot, h.quad⟩
  have hby : k'.op.byte ≠ 1 ∧ k'.op.byte ≠ 2 ∧ k'.op.byte ≠ 32 := by
    rw [e2, ho]
    rcases hb with rfl | rfl | rfl | rfl | rfl | rfl | rfl | rfl <;> decide
  split
  · exact obey_still hm k' hby
  · exact hm
theorem loss_plain {t : St} {A : ByteArray} (hA : t.A = A) (hl : t.left = 0) (hp : t.prot = false) (hq : t.quad = false) (m : ByteArray) : (t.loss m).Plain A ∧ (t.loss m).en = false ∧ (t.loss m).first = 0 ∧ (t.loss m).second = 0 := by
  have hP : (t.loss m).Plain A := ⟨⟨⟨rfl, rfl, rfl⟩, rfl, rfl⟩, by show (if 0 < t.left then t.on m else t.A) = A; rw [if_neg (by omega), hA], rfl, hp⟩
  refine ⟨hP, rfl, ?_, ?_⟩
  · rw [plain_first hP]; rfl
  · show bitIf t.quad 2 + bitIf false 128 = 0
    rw [hq]; rfl
theorem clock_picked {s : St} {A : ByteArray} (h : s.Still A) : (s.select.clock 14).1.A = A ∧ (s.select.clock 14).1.left = 0 ∧ (s.select.clock 14).1.prot = false ∧ (s.select.clock 14).1.quad = false ∧ (s.select.clock 14).2 = 15 := by
  have e0 : s.select = s.picked.setK (noCmd.mid 0 0) := by rw [select_idle h.rest.idle, mid_zero noCmd rfl rfl]; show s.picked = s.picked.setK noCmd; rw [← picked_k h.rest.idle]; rfl
  rw [e0, clock_mid (s := s.picked) (k := noCmd) (rest_picked h.rest) rfl rfl 0 0 14 (by decide)]
  exact ⟨h.A, h.rest.left, h.prot, h.quad, rfl⟩
theorem touch {s : St} (h : s.Idle) : s.select.deselect = s := by
  rw [select_idle h, show s.picked = s.picked.setK noCmd by rw [← picked_k h]; rfl, deselect_idle h noCmd (by decide), if_neg (by decide)]
theorem erase_runs {s : St} {A : ByteArray} (h : s.Plain A) (he : s.en = true) (a : Nat) (ha : a < 4096) : (s.say (wordL [32, 0, a / 256, a % 256])).Runs true a ⟨#[]⟩ A := by
  rw [say_erase h.rest a ha, begin_under _ _ _ he h.prot]
  exact runs_under h he _ _ _
theorem runs_wait {s : St} {er : Bool} {a : Nat} {d A : ByteArray} (h : s.Runs er a d A) : s.wait 8 = s.done := by
  have := wait_done h.sus (by rw [h.left]; decide)
  rw [h.left] at this
  exact this
theorem runs_on_erase {s : St} {a : Nat} {d A : ByteArray} (h : s.Runs true a d A) : s.on ⟨#[255]⟩ = erase A (a / 512) ⟨#[255]⟩ := by
  unfold St.on
  rw [h.er, h.wat, h.A]
  rfl
end Go.Proofs.Ythhchfldgkgfpaa
