/-
  Commands with an address: which they are, that they fit with no data and no read, and what their phases are; a place in three bytes is told by them. No conditions but those of each statement.
-/
import Derived.Test.YtbjaogcejcfpbaaAwake
namespace Go.Proofs.Ytbjaogcejcfpbaa
open Go.RowKit
set_option linter.unusedVariables false

theorem and_4095 (n : Int) : bits .and .i64 n 4095 = n % 4096 := and_mask n 12 (by omega)
/-- The commands with an address and without mode bits. -/
def placeL : List Int := [3, 32, 90, 107, 2]
theorem place_at : ∀ K : Nat, K < 5 → isOp (placeL.getD K 0) = true ∧ opA (placeL.getD K 0) = 1 ∧ opM (placeL.getD K 0) = false := by decide
/-- Their phases. -/
def placeP (b D : Int) (k : Nat) : List Ph := (1, [b], 0, 0) :: (1, addrL k, 0, 0) :: (if 0 < D then [(0, [], D, 0)] else [])
theorem place_fit {b D N : Int} {I : Bool} (hop : isOp b = true) (hA : opA b = 1) (hM : opM b = false) (hD : opD b = D) (hN : opN b = N) (hI : opI b = I) (k : Nat) (hk : k < 4096) :
    fitB b 1 false D N I k [] 0 = true ∧ phL (b, 1, false, D, N, I) (k : Int).toNat [] 0 = placeP b D k := by
  constructor
  · have hkn : knB b 1 false D N I = true := by rw [knB, hop, hA, hM, hD, hN, hI]; simp
    have hpl : plB 1 k = true := by rw [plB, if_neg (by decide)]; exact decide_eq_true (by omega)
    rw [fit_yes hkn hpl (by decide) (by decide)]
    unfold caB
    split
    · rfl
    · cases I <;> rfl
  · rw [Int.toNat_natCast]
    unfold phL placeP
    simp
theorem addr_short {k : Nat} (hk : k < 4096) : addrL k = [0, ((k / 256 : Nat) : Int), ((k % 256 : Nat) : Int)] := by
  unfold addrL
  rw [show k / 65536 = 0 by omega, show k / 256 % 256 = k / 256 by omega]
  rfl
theorem place_inj {b D : Int} {x y : Nat} (hx : x < 4096) (hy : y < 4096) : placeP b D x = placeP b D y ↔ x = y := by
  constructor
  · intro h
    unfold placeP at h
    injection h with _ h
    injection h with h _
    injection h with _ h
    injection h with h _
    rw [addr_short hx, addr_short hy] at h
    injection h with _ h
    injection h with h1 h
    injection h with h2 _
    omega
  · intro h; rw [h]
theorem place_len (b D : Int) : ∃ m : Nat, 2 ≤ m ∧ m ≤ 3 ∧ ∀ k, (placeP b D k).length = m := by
  unfold placeP
  by_cases h : 0 < D
  · exact ⟨3, by omega, by omega, fun k => by simp [h]⟩
  · exact ⟨2, by omega, by omega, fun k => by simp [h]⟩
theorem own_three {B : Nat} {w : World} {v : Value} {L : List Int} (h : Owns B w v L) (hl : 0 < L.length) : ∃ g c, v = .slice (some ⟨g, 0, none⟩) L.length c ∧ ∀ j, j < L.length → w.cell? ⟨g, j, none⟩ = some (.int .i64 (L.getD j 0)) := by
  obtain ⟨g, c, rfl, -, -⟩ := World.ownsRow.form h hl
  refine ⟨g, c, rfl, fun j hj => ?_⟩
  have := World.ownsRow.cellAt h j (by omega)
  rw [this, List.getElem?_map, List.getD_eq_getElem?_getD, List.getElem?_eq_getElem hj]
  rfl
/-- What lies in memory of such phases. -/
theorem place_open {B : Nat} {w : World} {v : Value} {qs : List (Value × Ph)} {b D : Int} {x m : Nat} (hx : x < 4096) (h : POwns B w v qs) (hX : qs.map Prod.snd = placeP b D x) (hm : (placeP b D x).length = m) :
    ∃ g c a0 c0 gz c1, v = .slice (some ⟨g, 0, none⟩) m c ∧ w.cell? ⟨g, 0, none⟩ = some (.int .i64 1) ∧ w.cell? ⟨g, 1, none⟩ = some (.slice a0 1 c0) ∧ w.cell? ⟨g, 2, none⟩ = some (.int .i64 0) ∧ w.cell? ⟨g, 3, none⟩ = some (.int .i64 0) ∧ w.cell? ⟨g, 5, none⟩ = some (.slice (some ⟨gz, 0, none⟩) 3 c1) ∧
      Reads w (.slice a0 1 c0) [b] ∧ w.cell? ⟨gz, 0, none⟩ = some (.int .i64 0) ∧ w.cell? ⟨gz, 1, none⟩ = some (.int .i64 ((x / 256 : Nat) : Int)) ∧ w.cell? ⟨gz, 2, none⟩ = some (.int .i64 ((x % 256 : Nat) : Int)) := by
  have hl : qs.length = m := by rw [← hm, ← hX, List.length_map]
  match qs, hX with
  | [], hX => simp [placeP] at hX
  | [q], hX => simp [placeP] at hX
  | q :: r :: t, hX =>
    rw [List.map_cons, List.map_cons, placeP] at hX
    injection hX with h0 hX
    injection hX with h1 _
    have hpos : 0 < (q :: r :: t).length := by simp
    have ho := h.1
    obtain ⟨g, c, rfl, -, -⟩ := ho.form hpos
    have cell := fun i (hi : i < (q :: r :: t).length * 4) => ho.cellAt i hi
    have hsz : 8 ≤ (q :: r :: t).length * 4 := by simp; omega
    obtain ⟨a0, c0, e0⟩ := own_slice (h.2 q (by simp))
    obtain ⟨gz, c1, e1, hz⟩ := own_three (h.2 r (by simp)) (by rw [h1]; simp [addrL])
    rw [h0] at e0
    rw [h1] at e1 hz
    rw [addr_short hx] at hz
    have hq := (h.2 q (by simp)).reads
    rw [h0, e0] at hq
    refine ⟨g, c, a0, c0, gz, c1, by rw [← hl], ?_, ?_, ?_, ?_, ?_, hq, hz 0 (by simp), hz 1 (by simp), hz 2 (by simp)⟩
    · rw [cell 0 (by omega), rowC_cons, phC, h0]; rfl
    · rw [cell 1 (by omega), rowC_cons, phC, e0]; rfl
    · rw [cell 2 (by omega), rowC_cons, phC, h0]; rfl
    · rw [cell 3 (by omega), rowC_cons, phC, h0]; rfl
    · rw [cell 5 (by omega), rowC_cons, rowC_cons, phC, phC, e1]; rfl
theorem lit_one {z : World} {a0 : Option Addr} {c0 g : Nat} {b : Int} (h : Reads z (.slice a0 1 c0) [b]) (hg : z.heap.size = g) : PReads (z.alloc (.cells #[.int .i64 1, .slice a0 1 c0, .int .i64 0, .int .i64 0] 45)) (.slice (some ⟨g, 0, none⟩) 1 1) [(1, [b], 0, 0)] := by
  subst hg
  refine preads_lit [(.slice a0 1 c0, (1, [b], 0, 0))] (heap_alloc_new _ _) rfl rfl ?_ 1
  intro q hq
  have : q = (.slice a0 1 c0, (1, [b], 0, 0)) := by simpa using hq
  subst this
  exact h.below (below_new _ _)
theorem short_one (b : Int) : PShort [(1, [b], 0, 0)] := ⟨by simp, fun p hp => by
  have : p = (1, [b], 0, 0) := by simpa using hp
  subst this
  simp⟩
theorem place_short (b D : Int) (k : Nat) : PShort (placeP b D k) := by
  constructor
  · obtain ⟨m, -, h3, hm⟩ := place_len b D
    rw [hm k]; omega
  · intro p hp
    unfold placeP at hp
    simp only [List.mem_cons] at hp
    rcases hp with rfl | rfl | hp
    · simp
    · simp [addrL]
    · split at hp
      · have : p = (0, [], D, 0) := by simpa using hp
        subst this; simp
      · simp at hp
end Go.Proofs.Ytbjaogcejcfpbaa
