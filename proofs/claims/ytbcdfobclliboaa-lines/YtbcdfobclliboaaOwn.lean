/-
  'own' of package line, by a contract for every cache that came in. Condition: its lists are no longer than a list that is read may be.
-/
import Derived.Test.YtbcdfobclliboaaSmall
import Derived.Test.YtbcdfobclliboaaBlocks
import Derived.Deep.RegionHeld3
import Derived.Deep.RegionLaw
import Derived.Deep.CutRange
import Derived.Deep.CutBlock
import Derived.BigQuiet
import Derived.Deep.QuietTactic
namespace Go.Proofs.Ytbcdfobclliboaa
open Go.RowKit Plain
set_option linter.unusedVariables false

theorem OV.apart {B e b T : Nat} {w : World} {v : Value} {X L : List Value} (h : OV B e w v X) (k : Blk w b T L) (hT : e ≠ T) : some b ≠ v.ownBlock := by
  intro hb
  rcases h.2 with ⟨rfl, _⟩ | ⟨g, cap, cur, rfl, _, hg, _⟩
  · simp [Value.ownBlock] at hb
  · simp [Value.ownBlock] at hb
    subst hb
    unfold Blk at k
    rw [k] at hg
    simp at hg
    exact hT hg.2.symm
theorem OV.apart2 {B B' e e' : Nat} {w : World} {v v' : Value} {X X' : List Value} (h : OV B e w v X) (k : OV B' e' w v' X') (hT : e ≠ e') : v'.ownBlock = none ∨ v'.ownBlock ≠ v.ownBlock := by
  rcases k.2 with ⟨rfl, _⟩ | ⟨g, cap, cur, rfl, _, hg, _⟩
  · exact .inl rfl
  · refine .inr fun hb => ?_
    rcases h.2 with ⟨rfl, _⟩ | ⟨g', cap', cur', rfl, _, hg', _⟩
    · simp [Value.ownBlock] at hb
    · simp [Value.ownBlock] at hb
      subst hb
      rw [hg] at hg'
      simp at hg'
      exact hT hg'.2.symm
theorem Blk.grown {w w' : World} {b T : Nat} {L : List Value} {row : Option Nat} (h : Blk w b T L) (g : w.grownBy w' row) (hb : some b ≠ row) : Blk w' b T L := by
  have hl := h.lt
  unfold Blk at h ⊢
  rw [g.block b hl hb]; exact h
theorem OV.set_other {B e b : Nat} {w : World} {v : Value} {X : List Value} (h : OV B e w v X) (i : Nat) (x : Value) (hb : some b ≠ v.ownBlock) : OV B e (w.setCell ⟨b, i, none⟩ x) v X := by
  refine ⟨h.1, ?_⟩
  rcases h.2 with h2 | ⟨g, cap, cur, rfl, hbg, hg, hr⟩
  · exact .inl h2
  · refine .inr ⟨g, cap, cur, rfl, hbg, ?_, hr⟩
    rw [Below.heap_setCell _ _ _ _ (fun e => hb (congrArg some (show b = g from e.symm)))]
    exact hg

/-- 'own' under way: the cache that came in lies boxed, the answer's place is empty, block kb holds what is kept so far: P, Q. -/
structure Ow (w : World) (va vt : Value) (x : Int) (kb : Nat) (u1 u2 : Value) (P : List Int) (Q : List ByteArray) (z : World) : Prop where
  box : Blk z w.heap.size 25 [va, vt, .int .i64 x]
  res : Blk z (w.heap.size + 1) 25 [.slice none 0 0, .slice none 0 0, .int .i64 0]
  kept : Blk z kb 25 [u1, u2, .int .i64 x]
  at' : OV (w.heap.size + 2) 3 z u1 (ints P)
  text : OV (w.heap.size + 2) 9 z u2 (txts Q)
  far : w.heap.size + 2 ≤ kb
  old : Below w.heap.size w z
theorem Ow.below {w : World} {va vt : Value} {x : Int} {kb : Nat} {u1 u2 : Value} {P : List Int} {Q : List ByteArray} {z z' : World} (h : Ow w va vt x kb u1 u2 P Q z) (b : Below z.heap.size z z') : Ow w va vt x kb u1 u2 P Q z' :=
  ⟨h.box.below b, h.res.below b, h.kept.below b, h.at'.below b (Nat.le_refl _), h.text.below b (Nat.le_refl _), h.far, below_then h.old b⟩
theorem Ow.drew {w : World} {va vt : Value} {x : Int} {kb : Nat} {u1 u2 : Value} {P : List Int} {Q : List ByteArray} {z : World} (h : Ow w va vt x kb u1 u2 P Q z) : Ow w va vt x kb u1 u2 P Q z.drew :=
  h.below (Below.refl _ _).drew
theorem Ow.more_at {w : World} {va vt : Value} {x : Int} {kb : Nat} {u1 u2 : Value} {P : List Int} {Q : List ByteArray} {z z' : World} (h : Ow w va vt x kb u1 u2 P Q z) (y : Int) (g c n : Nat) (hn : n = P.length + 1)
    (ho : z'.ownsRow (w.heap.size + 2) 3 1 (.slice (some ⟨g, 0, none⟩) n c) n (ints P ++ [.int .i64 y])) (hg : z.grownBy z' u1.ownBlock) :
    Ow w va vt x kb (.slice (some ⟨g, 0, none⟩) n c) u2 (P ++ [y]) Q (z'.setCell ⟨kb, 0, none⟩ (.slice (some ⟨g, 0, none⟩) n c)) := by
  subst hn
  have e1 : ints (P ++ [y]) = ints P ++ [.int .i64 y] := by simp
  have k2 : Blk z' kb 25 [u1, u2, .int .i64 x] := h.kept.grown hg (h.at'.apart h.kept (by decide))
  have o1 : OV (w.heap.size + 2) 3 z' (.slice (some ⟨g, 0, none⟩) (P.length + 1) c) (ints (P ++ [y])) := by
    unfold OV
    rw [e1, show (ints P ++ [Value.int .i64 y]).length = P.length + 1 by simp]
    exact ho
  have o2 : OV (w.heap.size + 2) 9 z' u2 (txts Q) := World.ownsRow.kept h.text hg (h.at'.apart2 h.text (by decide))
  have hf := h.far
  refine ⟨(h.box.grown hg (h.at'.apart h.box (by decide))).other _ _ _ (by omega), (h.res.grown hg (h.at'.apart h.res (by decide))).other _ _ _ (by omega), k2.set 0 _, o1.set_other _ _ (o1.apart k2 (by decide)), o2.set_other _ _ (o2.apart k2 (by decide)), hf, ?_⟩
  exact (h.old.grown hg h.old.size fun k hk => by have := (h.at'.lt k hk).1; omega).setCell (by show w.heap.size ≤ kb; omega) _
theorem Ow.more_text {w : World} {va vt : Value} {x : Int} {kb : Nat} {u1 u2 : Value} {P : List Int} {Q : List ByteArray} {z z' : World} (h : Ow w va vt x kb u1 u2 P Q z) (y : ByteArray) (g c n : Nat) (hn : n = Q.length + 1)
    (ho : z'.ownsRow (w.heap.size + 2) 9 1 (.slice (some ⟨g, 0, none⟩) n c) n (txts Q ++ [.string y])) (hg : z.grownBy z' u2.ownBlock) :
    Ow w va vt x kb u1 (.slice (some ⟨g, 0, none⟩) n c) P (Q ++ [y]) (z'.setCell ⟨kb, 1, none⟩ (.slice (some ⟨g, 0, none⟩) n c)) := by
  subst hn
  have e1 : txts (Q ++ [y]) = txts Q ++ [.string y] := by simp
  have k2 : Blk z' kb 25 [u1, u2, .int .i64 x] := h.kept.grown hg (h.text.apart h.kept (by decide))
  have o1 : OV (w.heap.size + 2) 9 z' (.slice (some ⟨g, 0, none⟩) (Q.length + 1) c) (txts (Q ++ [y])) := by
    unfold OV
    rw [e1, show (txts Q ++ [Value.string y]).length = Q.length + 1 by simp]
    exact ho
  have o2 : OV (w.heap.size + 2) 3 z' u1 (ints P) := World.ownsRow.kept h.at' hg (h.text.apart2 h.at' (by decide))
  have hf := h.far
  refine ⟨(h.box.grown hg (h.text.apart h.box (by decide))).other _ _ _ (by omega), (h.res.grown hg (h.text.apart h.res (by decide))).other _ _ _ (by omega), k2.set 1 _, o2.set_other _ _ (o2.apart k2 (by decide)), o1.set_other _ _ (o1.apart k2 (by decide)), hf, ?_⟩
  exact (h.old.grown hg h.old.size fun k hk => by have := (h.text.lt k hk).1; omega).setCell (by show w.heap.size ≤ kb; omega) _

theorem make3 (w : World) : (Instr.makeSlice 22 (.int .i64 0) (.int .i64 2)).run Try.prog w = .ok (.slice (some ⟨w.heap.size, 0, none⟩) 0 2) (w.alloc (.cells #[.int .i64 0, .int .i64 0] 3)) := by
  obtain ⟨i0, hi, hz0, hz1, hz2⟩ := info_parts info3
  have h := run_make (P := Try.prog) w 22 3 i0 (.int .i64 0) Try.underlying22 hi hz0 .i64 .i64 0 2 (by omega) (by omega) (by rw [hz2]; decide) (by omega)
  rw [hz1, show madeCells (Value.int .i64 0).cells ((2 : Int).toNat * 1) = #[.int .i64 0, .int .i64 0] by kernel_rfl] at h
  exact h
theorem make9 (w : World) : (Instr.makeSlice 23 (.int .i64 0) (.int .i64 2)).run Try.prog w = .ok (.slice (some ⟨w.heap.size, 0, none⟩) 0 2) (w.alloc (.cells #[.string ByteArray.empty, .string ByteArray.empty] 9)) := by
  obtain ⟨i0, hi, hz0, hz1, hz2⟩ := info_parts info9
  have h := run_make (P := Try.prog) w 23 9 i0 (.string ByteArray.empty) Try.underlying23 hi hz0 .i64 .i64 0 2 (by omega) (by omega) (by rw [hz2]; decide) (by omega)
  rw [hz1, show madeCells (Value.string ByteArray.empty).cells ((2 : Int).toNat * 1) = #[.string ByteArray.empty, .string ByteArray.empty] by kernel_rfl] at h
  exact h
theorem Blk.at_ {w : World} {b T : Nat} {L : List Value} {cs : Array Value} (e : cs = L.toArray) (hb : w.heap.size = b) : Blk (w.alloc (.cells cs T)) b T L := by
  subst hb
  exact Blk.new w T L cs e
theorem OV.made {w : World} {B b e : Nat} {cs : Array Value} (hB : B ≤ w.heap.size) (hb : w.heap.size = b) (hc : cs.size = 2) : OV B e (w.alloc (.cells cs e)) (.slice (some ⟨b, 0, none⟩) 0 2) [] := by
  subst hb
  exact World.ownsRow_made w cs 2 hB (by unfold maxLen; decide) (by rw [hc])
theorem OV.alloc {B e : Nat} {w : World} {v : Value} {X : List Value} (h : OV B e w v X) (o : Obj) : OV B e (w.alloc o) v X := World.ownsRow.alloc h o
theorem OV.drew {B e : Nat} {w : World} {v : Value} {X : List Value} (h : OV B e w v X) : OV B e w.drew v X := h
theorem heap_alloc_at {w : World} {o : Obj} {b : Nat} (hb : w.heap.size = b) : (w.alloc o).heap[b]? = some o := by
  subst hb
  unfold World.alloc
  simp
theorem heap_alloc_old {w : World} {o : Obj} {b : Nat} {x : Option Obj} (hb : b < w.heap.size) (h : w.heap[b]? = x) : (w.alloc o).heap[b]? = x := by
  rw [← h, (below_new w o).block b hb]
theorem ow_three (w : World) (va vt : Value) (x : Int) (X Y Z : Obj) (B R : Obj) (hB : B = .cells #[va, vt, .int .i64 x] 25) (hR : R = .cells #[.slice none 0 0, .slice none 0 0, .int .i64 0] 25)
    (bk ba bt : Nat) (z : World) (hz : z = (((((w.alloc B).alloc R).alloc X).alloc Y).alloc Z).drew)
    (hk : z.heap[bk]? = some (.cells #[.slice (some ⟨ba, 0, none⟩) 0 2, .slice (some ⟨bt, 0, none⟩) 0 2, .int .i64 x] 25))
    (ha : z.heap[ba]? = some (.cells #[.int .i64 0, .int .i64 0] 3)) (ht : z.heap[bt]? = some (.cells #[.string ByteArray.empty, .string ByteArray.empty] 9))
    (h1 : w.heap.size + 2 ≤ bk) (h2 : w.heap.size + 2 ≤ ba) (h3 : w.heap.size + 2 ≤ bt) :
    Ow w va vt x bk (.slice (some ⟨ba, 0, none⟩) 0 2) (.slice (some ⟨bt, 0, none⟩) 0 2) [] [] z := by
  have e0 : (w.alloc B).heap.size = w.heap.size + 1 := by simp
  have b2 : Below (w.heap.size + 2) ((w.alloc B).alloc R) z := by
    rw [hz]
    refine Below.drew (Below.alloc (Below.alloc (Below.alloc (Below.refl _ _) ?_ _) ?_ _) ?_ _) <;> simp <;> omega
  refine ⟨?_, ?_, hk, ⟨rfl, .inr ⟨ba, 2, _, rfl, h2, ha, by simp, by unfold maxLen; decide, rfl, rfl⟩⟩, ⟨rfl, .inr ⟨bt, 2, _, rfl, h3, ht, by simp, by unfold maxLen; decide, rfl, rfl⟩⟩, h1, ?_⟩
  · unfold Blk
    rw [b2.block w.heap.size (by omega), heap_alloc_old (by simp) (heap_alloc_at rfl), hB]
  · unfold Blk
    rw [b2.block (w.heap.size + 1) (by omega), heap_alloc_at e0, hR]
  · exact (((Below.refl _ w).alloc (Nat.le_refl _) B).alloc (by simp) R).trans (b2.mono (by omega))
theorem three_k (w : World) (B R X Y Z : Obj) (z : World) (hz : z = (((((w.alloc B).alloc R).alloc X).alloc Y).alloc Z).drew) :
    z.heap[w.heap.size + 1 + 1]? = some X ∧ z.heap[w.heap.size + 1 + 1 + 1]? = some Y ∧ z.heap[w.heap.size + 1 + 1 + 1 + 1]? = some Z := by
  subst hz
  refine ⟨?_, ?_, ?_⟩
  · exact heap_alloc_old (by simp) (heap_alloc_old (by simp) (heap_alloc_at (by simp)))
  · exact heap_alloc_old (by simp) (heap_alloc_at (by simp))
  · exact heap_alloc_at (by simp)
theorem ov_row {B e n : Nat} {w : World} {v : Value} {X J : List Value} (h : OV B e w v X) (hJ : X = J) (hn : J.length = n) : w.ownsRow B e 1 v n J := by
  subst hJ hn
  exact h
theorem ov_base {w : World} {va vt : Value} {x : Int} {kb : Nat} {u1 u2 : Value} {P : List Int} {Q : List ByteArray} {z : World} (h : Ow w va vt x kb u1 u2 P Q z) : w.heap.size + 2 ≤ z.heap.size := by
  have := h.kept.lt; have := h.far; omega
theorem may_no {A : List Int} {T : List ByteArray} {x : Int} {k : Nat} (hk : k < 2) (h : liB A T k = false) : mayB A T x = false := by
  unfold mayB
  rcases (show k = 0 ∨ k = 1 by omega) with rfl | rfl
  · rw [h]; simp
  · rw [h]; simp
theorem may_yes {A : List Int} {T : List ByteArray} {x : Int} (hA : A.length = 2) (hT : T.length = 2) (h0 : 0 ≤ x) (h2 : x < 2) (h : ∀ j, j < 2 → liB A T j = true) : mayB A T x = true := by
  unfold mayB
  rw [h 0 (by omega), h 1 (by omega), hA, hT]
  simp; omega
/-- What 'own' answers: a cache of its own, or none. -/
def OwnE (w : World) (A : List Int) (T : List ByteArray) (x : Int) (e : Ending) (w' : World) : Prop :=
  Below w.heap.size w w' ∧ ((mayB A T x = true ∧ ∃ c, e = .returned (.tuple #[c, .bool true]) ∧ CO w.heap.size w' c A T x) ∨
    (mayB A T x = false ∧ e = .returned (.tuple #[cV (.slice none 0 0) (.slice none 0 0) 0, .bool false])))

set_option maxRecDepth 100000 in
set_option maxHeartbeats 4000000 in
theorem own_two (a : Option Addr) (c1 : Nat) (b : Option Addr) (c2 : Nat) (A : List Int) (T : List ByteArray) (x : Int) (w : World) (hA : RV w (.slice a 2 c1) (ints A)) (hA2 : A.length = 2) (hT : RV w (.slice b 2 c2) (txts T)) (hT2 : T.length = 2) (h0 : 0 ≤ x) (h1 : x < 2)
    (hs : ∀ t ∈ T, t.size ≤ maxLen) :
    Calls Try.prog 22 #[cV (.slice a 2 c1) (.slice b 2 c2) x] w (OwnE w A T x) := by
  obtain ⟨ga, oa, rfl, hca⟩ : ∃ g o, a = some ⟨g, o, none⟩ ∧ ∀ j, j < 2 → w.cell? ⟨g, o + j, none⟩ = some (.int .i64 (A.getD j 0)) := by
    obtain ⟨a', cap, hv, h⟩ := hA
    obtain ⟨g, o, rfl, h3⟩ := h (by rw [List.length_map]; omega)
    simp at hv
    exact ⟨g, o, hv.1, fun j hj => h3 j _ (ints_at (by omega))⟩
  obtain ⟨gb, ob, rfl, hcb⟩ : ∃ g o, b = some ⟨g, o, none⟩ ∧ ∀ j, j < 2 → w.cell? ⟨g, o + j, none⟩ = some (.string (T.getD j ByteArray.empty)) := by
    obtain ⟨a', cap, hv, h⟩ := hT
    obtain ⟨g, o, rfl, h3⟩ := h (by rw [List.length_map]; omega)
    simp at hv
    exact ⟨g, o, hv.1, fun j hj => h3 j _ (txts_at (by omega))⟩
  have HT2 : Hid (T.length = 2) := hT2
  have HA2 : Hid (A.length = 2) := hA2
  clear hA hT
  obtain ⟨va, hva⟩ : ∃ v, v = Value.slice (some ⟨ga, oa, none⟩) 2 c1 := ⟨_, rfl⟩
  obtain ⟨vt, hvt⟩ : ∃ v, v = Value.slice (some ⟨gb, ob, none⟩) 2 c2 := ⟨_, rfl⟩
  have HVA : Hid (va = Value.slice (some ⟨ga, oa, none⟩) 2 c1) := hva
  have HVT : Hid (vt = Value.slice (some ⟨gb, ob, none⟩) 2 c2) := hvt
  clear hva hvt
  unfold cV
  go_enter Try.func22, Try.ntmps22
  go_upto_region 3 with fail
  go_cut [4] from 28 (fun v z => Hid (∃ kb u1 u2, v = .pointer (some ⟨kb, 0, none⟩) ∧ Ow w (.slice (some ⟨ga, oa, none⟩) 2 c1) (.slice (some ⟨gb, ob, none⟩) 2 c2) x kb u1 u2 [] [] z))
  case first => as_aux_lemma =>
    have m3 := make3
    have m9 := make9
    clear hca hcb hs HVA HVT
    go_region_with fail
    all_goals go_wp2_with fail
    all_goals go_meet
    all_goals
      rw [Hid]
      first
        | (obtain ⟨k1, k2, k3⟩ := three_k w _ _ _ _ _ _ rfl
           exact ⟨_, _, _, rfl, ow_three w _ _ x _ _ _ _ _ rfl rfl _ _ _ _ rfl k3 k1 k2 (by omega) (by omega) (by omega)⟩)
        | (obtain ⟨k1, k2, k3⟩ := three_k w _ _ _ _ _ _ rfl
           exact ⟨_, _, _, rfl, ow_three w _ _ x _ _ _ _ _ rfl rfl _ _ _ _ rfl k3 k2 k1 (by omega) (by omega) (by omega)⟩)
        | (obtain ⟨k1, k2, k3⟩ := three_k w _ _ _ _ _ _ rfl
           exact ⟨_, _, _, rfl, ow_three w _ _ x _ _ _ _ _ rfl rfl _ _ _ _ rfl k2 k1 k3 (by omega) (by omega) (by omega)⟩)
        | (obtain ⟨k1, k2, k3⟩ := three_k w _ _ _ _ _ _ rfl
           exact ⟨_, _, _, rfl, ow_three w _ _ x _ _ _ _ _ rfl rfl _ _ _ _ rfl k2 k3 k1 (by omega) (by omega) (by omega)⟩)
        | (obtain ⟨k1, k2, k3⟩ := three_k w _ _ _ _ _ _ rfl
           exact ⟨_, _, _, rfl, ow_three w _ _ x _ _ _ _ _ rfl rfl _ _ _ _ rfl k1 k2 k3 (by omega) (by omega) (by omega)⟩)
        | (obtain ⟨k1, k2, k3⟩ := three_k w _ _ _ _ _ _ rfl
           exact ⟨_, _, _, rfl, ow_three w _ _ x _ _ _ _ _ rfl rfl _ _ _ _ rfl k1 k3 k2 (by omega) (by omega) (by omega)⟩)
        | trace_state
  case rest =>
    obtain ⟨kb, v1, v2, e4, hO⟩ := hcut.out
    subst e4
    obtain ⟨z0, ez⟩ : ∃ y, y = wc := ⟨_, rfl⟩
    subst ez
    have HO : Hid (Ow w _ _ x kb v1 v2 [] [] z0) := hO
    have cb0 := hO.box.cell 0 rfl
    have h0x := h0
    have h2x := h1
    clear hcut hO hA2 hT2 h0 h1
    go_wp2_with fail
    go_loopw [5, 6, 36] (fun s t i wr => ∃ (k : Nat) (u1 u2 : Value), k ≤ 2 ∧ i = .int .i64 k ∧ Hid (Ow w (.slice (some ⟨ga, oa, none⟩) 2 c1) (.slice (some ⟨gb, ob, none⟩) 2 c2) x kb u1 u2 (A.take k) (T.take k) wr) ∧ Hid (∀ j, j < k → liB A T j = true)) (fun _ _ i _ => 2 - (intOf i).toNat)
    case atStart => exact ⟨0, v1, v2, by omega, rfl, HO.out, fun j hj => by omega⟩
    case round =>
      clear cb0 HO
      obtain ⟨k, u1, u2, hk, rfl, HO, HL⟩ := hrel
      by_cases hlt : k < 2
      · obtain ⟨y, hy⟩ : ∃ y, y = A.getD k 0 := ⟨_, rfl⟩
        obtain ⟨t, ht⟩ : ∃ t, t = T.getD k ByteArray.empty := ⟨_, rfl⟩
        have HY : Hid (y = A.getD k 0) := hy
        have HT : Hid (t = T.getD k ByteArray.empty) := ht
        have ca : wr.cell? ⟨ga, oa + k, none⟩ = some (.int .i64 y) := by
          rw [hy, ← hca k hlt]; exact HO.out.old.cell (by exact cell_lt (hca k hlt))
        have ct : wr.cell? ⟨gb, ob + k, none⟩ = some (.string t) := by
          rw [ht, ← hcb k hlt]; exact HO.out.old.cell (by exact cell_lt (hcb k hlt))
        have hts : Hid (t.size ≤ maxLen) := by
          rw [Hid, ht]
          exact hs _ (by rw [List.getD_eq_getElem?_getD, List.getElem?_eq_getElem (by have := HT2.out; omega)]; exact List.getElem_mem _)
        have cb1 := HO.out.box.cell 1 rfl
        have ck0 := HO.out.kept.cell 0 rfl
        have hk0 : (0 : Int) ≤ k := by omega
        have hk2 : (k : Int) < 2 := by omega
        have HCB : Hid (∀ j, j < 2 → w.cell? ⟨gb, ob + j, none⟩ = some (.string (T.getD j ByteArray.empty))) := hcb
        clear hy ht hca hcb hs
        have HU1 : Hid (RV wr u1 (ints (A.take k))) := HO.out.at'.reads
        have hl8 : (A.take k).length * 8 ≤ 140737488351232 := by rw [List.length_take]; omega
        go_upto_region 7 with fail
        go_cut [64] from 41 to 83 (fun v z => Hid (v = .bool (!(liB A T k))) ∧ Hid (z = wr))
        case first => as_aux_lemma =>
          have HR : Hid (liB A T k = (emB y t || (whB y t && !(decide (y ∈ A.take k))))) := by
            rw [Hid, HY.out, HT.out]; rfl
          cases hE : emB y t with
          | true =>
            go_wp2_with (go_at_call 32; refine (empty_any y t _).mono ?_; rintro e w' ⟨rfl, rfl⟩; rw [hE])
            go_meet
            case rel => exact ⟨by rw [Hid, HR.out, hE]; rfl, rfl⟩
          | false =>
            cases hW : whB y t with
            | false =>
              go_wp2_with (first | (go_at_call 32; refine (empty_any y t _).mono ?_; rintro e w' ⟨rfl, rfl⟩; rw [hE]) | (go_at_call 23; refine (whole_any y t _ hts.out).mono ?_; rintro e w' ⟨rfl, rfl⟩; rw [hW]))
              go_meet
              case rel => exact ⟨by rw [Hid, HR.out, hE, hW]; rfl, rfl⟩
            | true =>
              go_wp2_with (first | (go_at_call 32; refine (empty_any y t _).mono ?_; rintro e w' ⟨rfl, rfl⟩; rw [hE]) | (go_at_call 23; refine (whole_any y t _ hts.out).mono ?_; rintro e w' ⟨rfl, rfl⟩; rw [hW]) | (go_at_call 33; refine (contains_any u1 (A.take k) y _ HU1.out hl8).mono ?_; rintro e w' ⟨rfl, rfl⟩))
              go_meet
              case rel => exact ⟨by rw [Hid, HR.out, hE, hW]; simp, rfl⟩
        case rest =>
          obtain ⟨Hv, Hz⟩ := hcut
          obtain ⟨B, HB⟩ : ∃ B, Hid (liB A T k = B) := ⟨_, rfl⟩
          have e64 := Hv.out
          rw [HB.out] at e64
          have ez := Hz.out
          subst e64 ez
          clear Hv Hz
          cases B
          · as_aux_lemma =>
            have cr0 := HO.out.res.cell 0 rfl
            have cr1 := HO.out.res.cell 1 rfl
            have cr2 := HO.out.res.cell 2 rfl
            have fr0 := HO.out.res.frozen 0
            have fr1 := HO.out.res.frozen 1
            have fr2 := HO.out.res.frozen 2
            have R1 := ((HO.out.res.set 0 (.slice none 0 0)).set 1 (.slice none 0 0)).set 2 (.int .i64 0)
            have B1 : Below w.heap.size w (((wc.setCell ⟨w.heap.size + 1, 0, none⟩ (.slice none 0 0)).setCell ⟨w.heap.size + 1, 1, none⟩ (.slice none 0 0)).setCell ⟨w.heap.size + 1, 2, none⟩ (.int .i64 0)) :=
              ((HO.out.old.setCell (by show w.heap.size ≤ w.heap.size + 1; omega) _).setCell (by show w.heap.size ≤ w.heap.size + 1; omega) _).setCell (by show w.heap.size ≤ w.heap.size + 1; omega) _
            have HNo : Hid (mayB A T x = false) := may_no hlt HB.out
            clear HO
            go_wp2_with fail
            generalize (((wc.setCell ⟨w.heap.size + 1, 0, none⟩ (.slice none 0 0)).setCell ⟨w.heap.size + 1, 1, none⟩ (.slice none 0 0)).setCell ⟨w.heap.size + 1, 2, none⟩ (.int .i64 0)) = W4 at R1 B1 ⊢
            have d0 := R1.cell 0 rfl
            have d1 := R1.cell 1 rfl
            have d2 := R1.cell 2 rfl
            refine bodyPost_ret (v := .tuple #[cV (.slice none 0 0) (.slice none 0 0) 0, .bool false]) (by simp [cV, results, Try.results22, go_sem, d0, d1, d2]) rfl ⟨B1, .inr ⟨HNo.out, rfl⟩⟩
          · as_aux_lemma =>
            obtain ⟨i3, hi3, h30, h31, h32⟩ := info_parts info3
            obtain ⟨i9, hi9, h90, h91, h92⟩ := info_parts info9
            have hAl : (ints (A.take k)).length = k := by rw [List.length_map, List.length_take]; have := HA2.out; omega
            have hTl : (txts (T.take k)).length = k := by rw [List.length_map, List.length_take]; have := HT2.out; omega
            have HA1 : Hid (A.take (k + 1) = A.take k ++ [y]) := by
              rw [Hid, List.take_add_one, HY.out, List.getD_eq_getElem?_getD, List.getElem?_eq_getElem (by have := HA2.out; omega)]; rfl
            have HT1 : Hid (T.take (k + 1) = T.take k ++ [t]) := by
              rw [Hid, List.take_add_one, HT.out, List.getD_eq_getElem?_getD, List.getElem?_eq_getElem (by have := HT2.out; omega)]; rfl
            have HX1 : Hid ((A.take k).length + 1 = k + 1) := by rw [Hid, List.length_take]; have := HA2.out; omega
            have HX2 : Hid ((T.take k).length + 1 = k + 1) := by rw [Hid, List.length_take]; have := HT2.out; omega
            have HO1 : Hid (Ow w (.slice (some ⟨ga, oa, none⟩) 2 c1) (.slice (some ⟨gb, ob, none⟩) 2 c2) x kb u1 u2 (A.take k) (T.take k) (wc.alloc (.cells #[.int .i64 y] 3))) := HO.out.below (below_new _ _)
            obtain ⟨I, HI⟩ : ∃ I, Hid (ints (A.take k) = I) := ⟨_, rfl⟩
            obtain ⟨J, HJ⟩ : ∃ J, Hid (txts (T.take k) = J) := ⟨_, rfl⟩
            obtain ⟨A1, HA3⟩ : ∃ X, Hid (A.take (k + 1) = X) := ⟨_, rfl⟩
            obtain ⟨T1, HT3⟩ : ∃ X, Hid (T.take (k + 1) = X) := ⟨_, rfl⟩
            have h16 : Hid (t.size ≤ 16) := by
              have h := HB.out
              unfold liB emB whB at h
              rw [← HY.out, ← HT.out] at h
              rw [Hid]
              simp at h
              rcases h with ⟨-, h⟩ | ⟨⟨-, h⟩, -⟩
              · rw [h]; decide
              · omega
            have hown : (wc.alloc (.cells #[.int .i64 y] 3)).ownsRow (w.heap.size + 2) 3 1 u1 k I := by
              have h := HO1.out.at'
              unfold OV at h
              rw [hAl, HI.out] at h; exact h
            have hsz : w.heap.size + 2 ≤ wc.heap.size := by
              have := HO.out.kept.lt; have := HO.out.far; omega
            have hil : Hid (I.length = k) := by rw [Hid, ← HI.out]; exact hAl
            have hjl : Hid (J.length = k) := by rw [Hid, ← HJ.out]; exact hTl
            have hnews : ∀ j u, [Value.int .i64 y][j]? = some u → (wc.alloc (.cells #[.int .i64 y] 3)).cell? ((⟨wc.heap.size, 0, none⟩ : Addr).add j) = some u := World.news_of_block (heap_alloc_new _ _)
            clear HU1 hAl hTl hl8 HO
            go_wp2_with (at_builtin; refine wpList_append_lies _ rfl (.tmp 67) (.tmp 69) 22 rfl (w.heap.size + 2) 3 i3 (.int .i64 0) 1 8 Try.underlying22 hi3 h30 h31 h32 rfl (by decide) u1 k I rfl hown ⟨wc.heap.size, 0, none⟩ 1 1 [.int .i64 y] rfl rfl hnews (fun u hu => by simp at hu; subst hu; rfl) (by decide) (by unfold maxLen; omega) (by omega) (by simp; omega) (wc.heap.size + 1) (by simp) ?_)
            intro g cap w2 h1 hgrow h3 h4
            rw [← HI.out] at h1
            have HO2 : Hid (Ow w (.slice (some ⟨ga, oa, none⟩) 2 c1) (.slice (some ⟨gb, ob, none⟩) 2 c2) x kb (.slice (some ⟨g, 0, none⟩) (k + 1) cap) u2 A1 (T.take k) (w2.setCell ⟨kb, 0, none⟩ (.slice (some ⟨g, 0, none⟩) (k + 1) cap))) := by
              rw [Hid, ← HA3.out, HA1.out]
              exact HO1.out.more_at y g cap (k + 1) HX1.out.symm h1 hgrow
            have k2 := HO1.out.kept.grown hgrow (HO1.out.at'.apart HO1.out.kept (by decide))
            have d0 := k2.cell 0 rfl
            have f0 := k2.frozen 0
            clear h1 hgrow h3 h4 k2 hown hnews HO1 ck0 cb1 ca ct
            go_upto_region 10 with fail
            generalize w2.setCell ⟨kb, 0, none⟩ (.slice (some ⟨g, 0, none⟩) (k + 1) cap) = W3 at HO2 ⊢
            obtain ⟨U1, HU1⟩ : ∃ U, Hid (Value.slice (some ⟨g, 0, none⟩) (k + 1) cap = U) := ⟨_, rfl⟩
            have HO3 : Hid (Ow w (.slice (some ⟨ga, oa, none⟩) 2 c1) (.slice (some ⟨gb, ob, none⟩) 2 c2) x kb U1 u2 A1 (T.take k) W3) := by
              rw [← HU1.out]; exact HO2
            clear HO2 d0 f0 HU1
            have cts : Hid (∀ z : World, Below w.heap.size w z → z.cell? ⟨gb, ob + k, none⟩ = some (.string t)) := fun z hz => by
              rw [HT.out, ← HCB.out k hlt]; exact hz.cell (by exact cell_lt (HCB.out k hlt))
            have S0 : W3.drew.cell? ⟨w.heap.size, 1, none⟩ = some (.slice (some ⟨gb, ob, none⟩) 2 c2) ∧ W3.drew.cell? ⟨gb, ob + k, none⟩ = some (.string t) := ⟨HO3.out.drew.box.cell 1 rfl, cts.out _ HO3.out.drew.old⟩
            have L0 : W3.drew.cell? ⟨kb, 1, none⟩ = some u2 := HO3.out.drew.kept.cell 1 rfl
            obtain ⟨S0a, S0b⟩ := S0
            go_region_law
              (first | (go_simp; go_at_call 25; refine (clone_any t _ h16.out).mono ?_; rintro e w5 ⟨rfl, b5⟩; (try dsimp only); (have O5 := HO3.out.drew.below b5); (have O6 := O5.below (below_new w5 (.cells #[.string t] 9))); (obtain ⟨s1a, s1b⟩ : w5.cell? ⟨w.heap.size, 1, none⟩ = some (.slice (some ⟨gb, ob, none⟩) 2 c2) ∧ w5.cell? ⟨gb, ob + k, none⟩ = some (.string t) := ⟨O5.box.cell 1 rfl, cts.out _ O5.old⟩); (obtain ⟨s2a, s2b⟩ : (w5.alloc (.cells #[.string t] 9)).cell? ⟨w.heap.size, 1, none⟩ = some (.slice (some ⟨gb, ob, none⟩) 2 c2) ∧ (w5.alloc (.cells #[.string t] 9)).cell? ⟨gb, ob + k, none⟩ = some (.string t) := ⟨O6.box.cell 1 rfl, cts.out _ O6.old⟩); (have L1 : w5.cell? ⟨kb, 1, none⟩ = some u2 := O5.kept.cell 1 rfl); (have L2 : (w5.alloc (.cells #[.string t] 9)).cell? ⟨kb, 1, none⟩ = some u2 := O6.kept.cell 1 rfl)) | (refine step_append_lies _ rfl (.tmp 73) (.tmp 80) 23 rfl (w.heap.size + 2) 9 i9 (.string ByteArray.empty) 1 16 Try.underlying23 hi9 h90 h91 h92 rfl (by decide) u2 k J (by simp [Act.eval]) (ov_row O6.text HJ.out hjl.out) ⟨w5.heap.size, 0, none⟩ 1 1 [.string t] (by simp [Act.eval]) rfl (World.news_of_block (heap_alloc_new _ _)) (fun u hu => by simp at hu; subst hu; rfl) (by decide) (by unfold maxLen; omega) (by omega) (ov_base O6) (w5.heap.size + 1) (by simp) ?_; intro g2 cap2 w6 h1 hgrow h3 h4; (have m6 := O6.more_text t g2 cap2 (k + 1) HX2.out.symm (by rw [HJ.out]; exact h1) hgrow); (have k6 := O6.kept.grown hgrow (O6.text.apart O6.kept (by decide))); (have d1 := k6.cell 1 rfl); (have f1 := k6.frozen 1); (have b6 := (O6.old.grown hgrow O6.old.size fun k hk => by have := (O6.text.lt k hk).1; omega))))
            all_goals
              clear S0a S0b L0 s1a s1b L1 s2a s2b L2 d1 f1 k6 hgrow h1 h3 h4 O5 O6 b5
              go_wp2_with fail
              go_roundw
              case rel => exact ⟨k + 1, U1, _, by omega, by go_num, by rw [Hid, HA3.out, HT1.out]; exact m6, fun j hj => by
                rcases Nat.lt_or_eq_of_le (Nat.le_of_lt_succ hj) with h | rfl
                · exact HL.out j h
                · exact HB.out⟩
              case measure => simp [intOf]; omega
      · as_aux_lemma =>
        have hk2 : k = 2 := by omega
        subst hk2
        have HX1 : Hid (mayB A T x = true) := may_yes HA2.out HT2.out h0x h2x HL.out
        have HX2 := HO.out
        rw [List.take_of_length_le (by rw [HA2.out]; exact Nat.le_refl _), List.take_of_length_le (by rw [HT2.out]; exact Nat.le_refl _)] at HX2
        obtain ⟨q1, p1, e1⟩ := HX2.at'.form
        obtain ⟨q2, p2, e2⟩ := HX2.text.form
        rw [List.length_map, HA2.out] at e1
        rw [List.length_map, HT2.out] at e2
        subst e1 e2
        have ck0 := HX2.kept.cell 0 rfl
        have ck1 := HX2.kept.cell 1 rfl
        have ck2 := HX2.kept.cell 2 rfl
        have cr0 := HX2.res.cell 0 rfl
        have cr1 := HX2.res.cell 1 rfl
        have cr2 := HX2.res.cell 2 rfl
        have fr0 := HX2.res.frozen 0
        have fr1 := HX2.res.frozen 1
        have fr2 := HX2.res.frozen 2
        have R1 := ((HX2.res.set 0 (.slice q1 2 p1)).set 1 (.slice q2 2 p2)).set 2 (.int .i64 x)
        have B1 : Below w.heap.size w (((wr.setCell ⟨w.heap.size + 1, 0, none⟩ (.slice q1 2 p1)).setCell ⟨w.heap.size + 1, 1, none⟩ (.slice q2 2 p2)).setCell ⟨w.heap.size + 1, 2, none⟩ (.int .i64 x)) :=
          ((HX2.old.setCell (by show w.heap.size ≤ w.heap.size + 1; omega) _).setCell (by show w.heap.size ≤ w.heap.size + 1; omega) _).setCell (by show w.heap.size ≤ w.heap.size + 1; omega) _
        have P1 := HX2.at'.apart HX2.res (by decide)
        have P2 := HX2.text.apart HX2.res (by decide)
        have O1 := (((HX2.at'.set_other 0 (.slice q1 2 p1) P1).set_other 1 (.slice q2 2 p2) P1).set_other 2 (.int .i64 x) P1).mono (show w.heap.size ≤ w.heap.size + 2 by omega)
        have O2 := (((HX2.text.set_other 0 (.slice q1 2 p1) P2).set_other 1 (.slice q2 2 p2) P2).set_other 2 (.int .i64 x) P2).mono (show w.heap.size ≤ w.heap.size + 2 by omega)
        clear HO HX2 hca hcb hs P1 P2
        go_wp2_with fail
        generalize (((wr.setCell ⟨w.heap.size + 1, 0, none⟩ (.slice q1 2 p1)).setCell ⟨w.heap.size + 1, 1, none⟩ (.slice q2 2 p2)).setCell ⟨w.heap.size + 1, 2, none⟩ (.int .i64 x)) = W4 at R1 B1 O1 O2 ⊢
        have d0 := R1.cell 0 rfl
        have d1 := R1.cell 1 rfl
        have d2 := R1.cell 2 rfl
        refine bodyPost_ret (v := .tuple #[cV (.slice q1 2 p1) (.slice q2 2 p2) x, .bool true]) (by simp [cV, results, Try.results22, go_sem, d0, d1, d2]) rfl ?_
        exact ⟨B1, .inl ⟨HX1.out, cV (.slice q1 2 p1) (.slice q2 2 p2) x, rfl, .slice q1 2 p1, .slice q2 2 p2, rfl, O1, O2⟩⟩
end Go.Proofs.Ytbcdfobclliboaa
