/-
  A slice of numbers that came in, and what it reads as. No conditions. A slice of acts that came in, and what it reads as: numbers, rows of numbers, texts. No conditions. A row lent with marked room behind it, whether it was kept, and a row spoilt: each by a contract. Condition: the row is no longer than a row that is read may be.
-/
import Derived.Test.YthhchfldgkgfpaaGreatTold2
import Derived.Test.YthhchfldgkgfpaaGreatRows
import Derived.ProofKit
import Derived.OpenShut
import Derived.SizedLaws
import Derived.Deep.Slices
import Derived.Deep.Strs
import Derived.Test.YthhchfldgkgfpaaGreatCalls
import Derived.Test.YthhchfldgkgfpaaGreatParts
import Derived.Deep.AppendLies
import Derived.Laws.AppendOwnNone
/-! A slice of numbers that came in, and what it reads as. No conditions. -/
section
namespace Go.Proofs.YthhchfldgkgfpaaGreat
open Go.RowKit Plain
set_option linter.unusedVariables false

/-- A slice that came in reads as the numbers L. -/
def Came (w : World) (a : Option Addr) (n cap : Nat) (L : List Int) : Prop :=
  L.length = n ∧ ((a = none ∧ n = 0 ∧ cap = 0) ∨ ∃ x, a = some x ∧ n ≤ cap ∧ ∀ j, j < n → w.cell? (x.add j) = some (.int .i64 (L.getD j 0)))

theorem Came.reads {w : World} {a : Option Addr} {n cap : Nat} {L : List Int} (h : Came w a n cap L) : Reads w (.slice a n cap) L := by
  obtain ⟨rfl, ⟨rfl, h0, rfl⟩ | ⟨x, rfl, hnc, hc⟩⟩ := h
  · exact ⟨none, 0, rfl, fun h => by omega⟩
  · refine ⟨some x, cap, rfl, fun h => ?_⟩
    obtain ⟨b, off, spot⟩ := x
    have hspot : spot = none := by simpa [Addr.add] using World.cell?_spot (hc 0 h)
    subst hspot
    refine ⟨b, off, rfl, fun j hj => ?_⟩
    have h1 := hc j hj
    rcases Nat.eq_zero_or_pos j with rfl | hp
    · simpa [Addr.add] using h1
    · rw [Addr.add, if_neg (by omega)] at h1
      exact h1

theorem came_of {w : World} {x : Addr} {n cap : Nat} {zs : List Int} (hl : n ≤ cap) (hz : zs.length = cap) (hc : ∀ i, i < zs.length → w.cell? (x.add i) = some (.int .i64 (zs.getD i 0))) : Came w (some x) n cap (zs.take n) := by
  refine ⟨by rw [List.length_take]; omega, .inr ⟨x, rfl, hl, fun j hj => ?_⟩⟩
  rw [hc j (by omega), List.getD_eq_getElem?_getD, List.getD_eq_getElem?_getD, List.getElem?_take, if_pos hj]

/-- A chip that nothing is under way in, nothing protected, no four lanes. -/
structure St.Still (s : St) (A : ByteArray) : Prop where
  rest : s.Rest
  A : s.A = A
  prot : s.prot = false
  quad : s.quad = false
theorem still_new (a : ByteArray) : (newSt a).Still a := ⟨rest_new a, rfl, rfl, rfl⟩
theorem obey_still {s : St} {A : ByteArray} (h : s.Still A) (k : Cmd) (hb : k.op.byte ≠ 1 ∧ k.op.byte ≠ 2 ∧ k.op.byte ≠ 32) : (s.obey k).Still A := by
  unfold St.obey
  split
  · exact ⟨rest_en h.rest true, h.A, h.prot, h.quad⟩
  · split
    · exact ⟨rest_en h.rest false, h.A, h.prot, h.quad⟩
    · split
      · exact ⟨⟨⟨h.rest.idle.sel, h.rest.idle.goes, h.rest.idle.k⟩, h.rest.left, by show (decide (0 < s.left) && s.erases) = false; rw [h.rest.left]; rfl⟩, h.A, h.prot, h.quad⟩
      · split
        · exact ⟨⟨⟨h.rest.idle.sel, h.rest.idle.goes, h.rest.idle.k⟩, h.rest.left, rfl⟩, h.A, h.prot, h.quad⟩
        · rw [if_neg hb.1, if_neg hb.2.1, if_neg hb.2.2]; exact h
theorem still_say {s : St} {A : ByteArray} (h : s.Still A) (b : Nat) (hb : b = 6 ∨ b = 4 ∨ b = 5 ∨ b = 159 ∨ b = 117 ∨ b = 122 ∨ b = 3 ∨ b = 0) (n : Nat) : (s.say (wordL [b] ++ List.replicate n 15)).Still A := by
  have hw : ∀ j, s.wait j = s := wait_zero (rest_busy h.rest)
  have ho : (s.wait 8).opFor b = opOf b := by rw [hw]; exact rest_opFor h.rest b (by omega)
  obtain ⟨k', m', e1, e2, e3⟩ := say_known h.rest.idle b (by omega) (by rw [ho]; exact opOf_mode b (by omega) (by omega)) (List.replicate n 15)
  rw [wordL_one, e1, hw]
  have hm : ({ s with made := m' } : St).Still A := ⟨⟨⟨h.rest.idle.sel, h.rest.idle.goes, h.rest.idle.k⟩, h.rest.left, h.rest.sus⟩, h.A, h.prot, h.quad⟩
  have hby : k'.op.byte ≠ 1 ∧ k'.op.byte ≠ 2 ∧ k'.op.byte ≠ 32 := by
    rw [e2, ho]
    rcases hb with rfl | rfl | rfl | rfl | rfl | rfl | rfl | rfl <;> decide
  split
  · exact obey_still hm k' hby
  · exact hm
theorem loss_plain {t : St} {A : ByteArray} (hA : t.A = A) (hl : t.left = 0) (hp : t.prot = false) (hq : t.quad = false) (m : ByteArray) : (t.loss m).Plain A ∧ (t.loss m).en = false ∧ (t.loss m).first = 0 ∧ (t.loss m).second = 0 := by
  have hP : (t.loss m).Plain A := ⟨⟨⟨rfl, rfl, rfl⟩, rfl, rfl⟩, by show (if 0 < t.left then t.on m else t.A) = A; rw [if_neg (by omega), hA], rfl, hp⟩
  refine ⟨hP, rfl, ?_, ?_⟩
  · rw [plain_first hP]; rfl
  · show bitIf t.quad 2 + bitIf false 128 = 0
    rw [hq]; rfl
theorem clock_picked {s : St} {A : ByteArray} (h : s.Still A) : (s.select.clock 14).1.A = A ∧ (s.select.clock 14).1.left = 0 ∧ (s.select.clock 14).1.prot = false ∧ (s.select.clock 14).1.quad = false ∧ (s.select.clock 14).2 = 15 := by
  have e0 : s.select = s.picked.setK (noCmd.mid 0 0) := by rw [select_idle h.rest.idle, mid_zero noCmd rfl rfl]; show s.picked = s.picked.setK noCmd; rw [← picked_k h.rest.idle]; rfl
  rw [e0, clock_mid (s := s.picked) (k := noCmd) (rest_picked h.rest) rfl rfl 0 0 14 (by decide)]
  exact ⟨h.A, h.rest.left, h.prot, h.quad, rfl⟩
theorem touch {s : St} (h : s.Idle) : s.select.deselect = s := by
  rw [select_idle h, show s.picked = s.picked.setK noCmd by rw [← picked_k h]; rfl, deselect_idle h noCmd (by decide), if_neg (by decide)]
theorem erase_runs {s : St} {A : ByteArray} (h : s.Plain A) (he : s.en = true) (a : Nat) (ha : a < 4096) : (s.say (wordL [32, 0, a / 256, a % 256])).Runs true a ⟨#[]⟩ A := by
  rw [say_erase h.rest a ha, begin_under _ _ _ he h.prot]
  exact runs_under h he _ _ _
theorem runs_wait {s : St} {er : Bool} {a : Nat} {d A : ByteArray} (h : s.Runs er a d A) : s.wait 8 = s.done := by
  have := wait_done h.sus (by rw [h.left]; decide)
  rw [h.left] at this
  exact this
theorem runs_on_erase {s : St} {a : Nat} {d A : ByteArray} (h : s.Runs true a d A) : s.on ⟨#[255]⟩ = erase A (a / 512) ⟨#[255]⟩ := by
  unfold St.on
  rw [h.er, h.wat, h.A]
  rfl
end Go.Proofs.YthhchfldgkgfpaaGreat
end

/-! A slice of acts that came in, and what it reads as: numbers, rows of numbers, texts. No conditions. -/
section
namespace Go.Proofs.YthhchfldgkgfpaaGreat
open Go.ChangeShapes Go.WideShapes Go.ChangeAt Go.RowKit Go.Deep
open Go.ChangeMaps (open_string shut_string)
open Plain
set_option linter.unusedVariables false

/-- One act: its number, its row, its mask. -/
structure Act1 where
  kind : Int
  row : Value
  xs : List Int
  mask : ByteArray
/-- The act D lies in three cells from place i of the row on. -/
structure DoAt (w : World) (g o : Nat) (D : Act1) : Prop where
  kind : w.cell? ⟨g, o, none⟩ = some (.int .i64 D.kind)
  row : w.cell? ⟨g, o + 1, none⟩ = some D.row
  mask : w.cell? ⟨g, o + 2, none⟩ = some (.string D.mask)
  came : ∃ a n c, D.row = .slice a n c ∧ Came w a n c D.xs ∧ n * 8 ≤ 140737488351232
  size : D.mask.size ≤ maxLen
/-- A slice of acts that came in. -/
def Dos (w : World) (a : Option Addr) (n cap : Nat) (L : List Act1) : Prop :=
  L.length = n ∧ n ≤ cap ∧ (0 < n → ∃ g o, a = some ⟨g, o, none⟩ ∧ ∀ i, i < n → ∃ D, L[i]? = some D ∧ DoAt w g (o + 3 * i) D)

theorem cells35 : Tryz.prog.cellsOf 35 = 3 := by kernel_rfl
theorem add_plain' {w : World} {x : Addr} {j : Nat} {v : Value} (h : w.cell? (x.add j) = some v) : w.cell? ⟨x.block, x.off + j, none⟩ = some v := by
  obtain ⟨b, off, spot⟩ := x
  unfold Addr.add at h
  split at h
  · rename_i e
    have hs := World.cell?_spot h
    have hs' : spot = none := hs
    subst hs'
    rw [e]
    exact h
  · exact h
theorem all_mem {H : Type} {P : Program} {e : TypeId} : ∀ {ds : List (DataW H)} {d : DataW H}, d ∈ ds → ∀ n ∈ d.weights P e, n ∈ DataW.weightsAll P e ds
  | d0 :: ds, d, hd, n, hn => by
    simp only [DataW.weightsAll, List.mem_append]
    rcases List.mem_cons.1 hd with rfl | hd
    · exact .inl hn
    · exact .inr (all_mem hd n hn)

set_option maxRecDepth 100000 in
theorem dos_open {H : Type} {enc : TypeId × Value → H} {W : World} {fuel : Nat} {a : Option Addr} {n cap : Nat} {x : DataW H × List MemPlace} (h : DataW.trod enc Tryz.prog W 0 (fun _ => true) true fuel 22 [.slice a n cap] = some x)
    (hw : ∀ y ∈ x.1.weights Tryz.prog 22, y ≤ reachBytes) : ∃ L, Dos W a n cap L := by
  rcases open_slice Tryz.underlying22 h with ⟨hcs, _⟩ | ⟨ad, len, cp, m, k, D, Pl, hcs, hb, hl, hm, hmm, hx, hc⟩
  · simp only [List.cons.injEq, Value.slice.injEq, and_true] at hcs
    obtain ⟨rfl, rfl, rfl⟩ := hcs
    exact ⟨[], rfl, Nat.le_refl _, fun h => absurd h (by decide)⟩
  · simp only [List.cons.injEq, Value.slice.injEq, and_true] at hcs
    obtain ⟨rfl, rfl, rfl⟩ := hcs
    have hmc : m = cap := by simpa using hmm
    rw [cells35] at hc
    have each : ∀ i, i < n → ∃ q : Act1, DoAt W ad.block (ad.off + 3 * i) q := fun i hi => by
      obtain ⟨cs, h1, h2⟩ := hc i (by omega)
      obtain ⟨_, hlen, hcell⟩ := World.cells?_some h1
      have hwi : ∀ y ∈ (D i).weights Tryz.prog 35, y ≤ reachBytes := fun y hy => hw y (by
        rw [hx]
        simp only [DataW.weights, Tryz.underlying22, List.mem_cons, List.mem_append]
        exact .inr (.inl (all_mem (List.mem_map.2 ⟨i, List.mem_range.2 hi, rfl⟩) y hy)))
      obtain ⟨y0, y1, y2, k', hxy, _, g0, g1, g2⟩ := trod_struct3 Tryz.underlying35 h2
      match cs, hlen with
      | [v0, v1, v2], _ =>
        have c3 : Tryz.prog.cellsOf 3 = 1 := by kernel_rfl
        have c33 : Tryz.prog.cellsOf 33 = 1 := by kernel_rfl
        have c9 : Tryz.prog.cellsOf 9 = 1 := by kernel_rfl
        have e0 := hcell 0 (by omega)
        have e1 := hcell 1 (by omega)
        have e2 := hcell 2 (by omega)
        rw [add_add] at e0 e1 e2
        have f0 : W.cell? ⟨ad.block, ad.off + (i * 3 + 0), none⟩ = some v0 := add_plain' e0
        have f1 : W.cell? ⟨ad.block, ad.off + (i * 3 + 1), none⟩ = some v1 := add_plain' e1
        have f2 : W.cell? ⟨ad.block, ad.off + (i * 3 + 2), none⟩ = some v2 := add_plain' e2
        simp only [c3, c33, c9, List.drop, List.take] at g0 g1 g2
        obtain ⟨z, hz, hz2, _⟩ := DataW.trod_int Tryz.underlying3 g0
        obtain ⟨t, ht, ht2, ht3⟩ := DataW.trod_string Tryz.underlying9 g2
        simp only [List.cons.injEq, and_true] at hz ht
        subst hz ht
        have hD : D i = .agg [y0.1, y1.1, y2.1] := by simpa using congrArg Prod.fst hxy
        have hwy : ∀ y ∈ y1.1.weights Tryz.prog 33, y ≤ reachBytes := fun y hy => hwi y (by
          rw [hD]
          simp only [DataW.weights, Tryz.underlying35]
          exact DataW.weights_mem_each (j := 1) rfl rfl y hy)
        have hrow : ∃ a n c L, v1 = .slice a n c ∧ Came W a n c L ∧ n * 8 ≤ 140737488351232 := by
          rcases open_ints Tryz.underlying33 Tryz.underlying3 c3 g1 with ⟨hq, _⟩ | ⟨b1, l1, c1, zs, hq, _, hl1, hm1, hz1, hx1, hcell1, _⟩
          · simp only [List.cons.injEq, and_true] at hq
            exact ⟨none, 0, 0, [], hq, ⟨rfl, .inl ⟨rfl, rfl, rfl⟩⟩, by omega⟩
          · simp only [List.cons.injEq, and_true] at hq
            have hzl : zs.length = c1 := by simpa using hz1
            have hb8 := hwy ((lits .i64 (zs.take l1)).length * 8 + (lits (H := H) .i64 (zs.drop l1)).length * 8) (by
              rw [hx1]
              simp only [DataW.weights, Tryz.underlying33]
              rw [show Tryz.prog.bytesOf 3 = 8 by kernel_rfl, Nat.add_mul]
              exact List.mem_cons_self)
            simp only [lits, List.length_map, List.length_take, List.length_drop, reachBytes] at hb8
            exact ⟨some b1, l1, c1, zs.take l1, hq, came_of hl1 hzl hcell1, by omega⟩
        obtain ⟨ra, rn, rc, rL, rv, hcame, hsz⟩ := hrow
        refine ⟨⟨z, v1, rL, t⟩, ?_, ?_, ?_, ⟨ra, rn, rc, rv, hcame, hsz⟩, ht3⟩
        · rw [show ad.off + 3 * i = ad.off + (i * 3 + 0) by omega]; exact f0
        · rw [show ad.off + 3 * i + 1 = ad.off + (i * 3 + 1) by omega]; exact f1
        · rw [show ad.off + 3 * i + 2 = ad.off + (i * 3 + 2) by omega]; exact f2
    haveI : Inhabited Act1 := ⟨⟨0, .bool false, [], ⟨#[]⟩⟩⟩
    obtain ⟨q, hq⟩ := choose_lt each
    refine ⟨(List.range n).map q, by simp, hl, fun h0 => ?_⟩
    obtain ⟨bk, off, sp⟩ := ad
    have hsp : sp = none := by
      have h0' := hc 0 (by omega)
      obtain ⟨cs, h1, _⟩ := h0'
      obtain ⟨_, hlen, hcell⟩ := World.cells?_some h1
      have e0 := hcell 0 (by omega)
      rw [add_add] at e0
      match cs, hlen with
      | [v0, v1, v2], _ =>
        have e1 : W.cell? ((⟨bk, off, sp⟩ : Addr).add (0 * 3 + 0)) = some v0 := e0
        have := World.cell?_spot e1
        simpa [Addr.add] using this
    subst hsp
    exact ⟨bk, off, rfl, fun i hi => ⟨q i, by simp [hi], hq i hi⟩⟩
end Go.Proofs.YthhchfldgkgfpaaGreat
end

/-! A row lent with marked room behind it, whether it was kept, and a row spoilt: each by a contract. Condition: the row is no longer than a row that is read may be. -/
section
namespace Go.Proofs.YthhchfldgkgfpaaGreat
open Go.RowKit
set_option linter.unusedVariables false

/-- Two rows compared: nothing is laid. -/
theorem drewN_more {w u : World} (h : ∃ c, u = w.drewN c) : ∃ c, u.drew = w.drewN c := by
  obtain ⟨c, rfl⟩ := h
  exact ⟨c + 1, by rw [← World.drewN_drewN]; rfl⟩
set_option maxRecDepth 100000 in
set_option maxHeartbeats 1000000 in
theorem same_q (u v : Value) (L M : List Int) (w : World) (hu : Reads w u L) (hv : Reads w v M) (hl : L.length * 8 ≤ 140737488351232) (hm : M.length * 8 ≤ 140737488351232) :
    Calls Tryz.prog 26 #[u, v] w fun e w' => e = .returned (.bool (decide (L = M))) ∧ ∃ c, w' = w.drewN c := by
  obtain ⟨a, c1, rfl, hu⟩ := hu
  obtain ⟨b, c2, rfl, hv⟩ := hv
  obtain ⟨n, hn⟩ : ∃ n, n = L.length := ⟨_, rfl⟩
  obtain ⟨m, hm2⟩ : ∃ m, m = M.length := ⟨_, rfl⟩
  rw [← hn] at hl
  rw [← hm2] at hm
  rw [← hn, ← hm2]
  by_cases hnm : n = m
  · subst hnm
    by_cases h0 : n = 0
    · subst h0
      have hL : L = M := by rw [List.length_eq_zero_iff.1 hn.symm, List.length_eq_zero_iff.1 hm2.symm]
      have HL : Hid (L = M) := hL
      clear hL hu hv hn hm2
      go_enter Tryz.func26, Tryz.ntmps26
      go_wp2
      refine wp_loop_rounds 1 ?_
      rw [rounds_succ]
      go_wp2
      go_ret
      exact ⟨ret_bool (by rw [HL.out]; simp), ⟨0, rfl⟩⟩
    · obtain ⟨g, o, rfl, hg⟩ := hu (by omega)
      obtain ⟨g', o', rfl, hg'⟩ := hv (by omega)
      clear hu hv
      go_enter Tryz.func26, Tryz.ntmps26
      go_wp2
      go_loopw [5] (fun i wr => ∃ k : Nat, k ≤ n ∧ i = .int .i64 k ∧ (∀ j, j < k → L.getD j 0 = M.getD j 0) ∧ ∃ c, wr = w.drewN c) (fun i _ => n - (intOf i).toNat)
      case atStart => exact ⟨0, Nat.zero_le _, rfl, fun j hj => by omega, ⟨0, rfl⟩⟩
      case round =>
        obtain ⟨k, hk, rfl, hs, hc⟩ := hrel
        have hb : Below w.heap.size w wr := by obtain ⟨c, rfl⟩ := hc; exact below_drewN (Below.refl _ _) c
        have HS : Hid (∀ j, j < k → L.getD j 0 = M.getD j 0) := hs
        have HB : Hid (∃ c, wr = w.drewN c) := hc
        clear hc
        by_cases hlt : k < n
        · obtain ⟨x, hx⟩ : ∃ x, x = L.getD k 0 := ⟨_, rfl⟩
          obtain ⟨y, hy⟩ : ∃ y, y = M.getD k 0 := ⟨_, rfl⟩
          have c1 : wr.cell? ⟨g, o + k, none⟩ = some (.int .i64 x) := by rw [hx]; exact (hb.cell (by exact cell_lt (hg k (by omega)))).trans (hg k (by omega))
          have c2 : wr.cell? ⟨g', o' + k, none⟩ = some (.int .i64 y) := by rw [hy]; exact (hb.cell (by exact cell_lt (hg' k (by omega)))).trans (hg' k (by omega))
          have i1 : (0 : Int) ≤ (k : Int) := by omega
          have i2 : (k : Int) < n := by omega
          have HX : Hid (x = L.getD k 0) := hx
          have HY : Hid (y = M.getD k 0) := hy
          have HN : Hid (n = L.length) := hn
          have HM : Hid (n = M.length) := hm2
          clear hs hb hg hg' hx hy hn hm2
          by_cases hxy : x = y
          · have e1 : (x != y) = false := by simpa using hxy
            go_wp2
            go_region
            all_goals go_wp2
            all_goals go_roundw
            case rel => exact ⟨k + 1, by omega, by go_num, fun j hj => by
              rcases Nat.lt_or_eq_of_le (Nat.le_of_lt_succ hj) with h | rfl
              · exact HS.out j h
              · exact HX.out.symm.trans (hxy.trans HY.out), drewN_more HB.out⟩
            case measure => simp [intOf]; omega
          · have e1 : (x != y) = true := by simpa using hxy
            go_wp2
            go_region
            all_goals go_wp2
            all_goals go_ret
            exact ⟨ret_bool (by
              refine (decide_eq_false fun h => hxy ?_).symm
              rw [HX.out, HY.out, h]), drewN_more HB.out⟩
        · have HL : Hid (L = M) := list_same (hn.symm.trans hm2) fun j hj => hs j (by omega)
          clear hs hb hg hg' hn hm2
          go_wp2
          go_ret
          exact ⟨ret_bool (by rw [HL.out]; simp), HB.out⟩
  · have HL : Hid (L ≠ M) := fun h => hnm (by rw [hn, hm2, h])
    clear hu hv hn hm2
    go_enter Tryz.func26, Tryz.ntmps26
    go_wp2
    go_ret
    exact ⟨ret_bool (decide_eq_false HL.out).symm, ⟨0, rfl⟩⟩

set_option maxRecDepth 100000 in
set_option maxHeartbeats 1000000 in
theorem copy_any (a : Option Addr) (n cap : Nat) (L : List Int) (w : World) (h : Came w a n cap L) (hb : n * 8 ≤ 140737488351232) :
    Calls Tryz.prog 51 #[.slice a n cap] w fun e w' => ∃ v, e = .returned v ∧ w'.ownsRow w.heap.size 3 1 v n (L.map (Value.int .i64)) ∧ Below w.heap.size w w' := by
  obtain ⟨i0, hi, hz0, hz1, hz2⟩ := info_parts info3
  have hown : (w.alloc (.cells #[] 3)).ownsRow w.heap.size 3 1 (.slice (some ⟨w.heap.size, 0, none⟩) 0 0) 0 [] := World.ownsRow_lit (base := w.heap.size) (e := 3) (size := 1) w #[] 0 (Nat.le_refl _) (by unfold maxLen; omega) rfl
  obtain ⟨hn, ⟨rfl, rfl, rfl⟩ | ⟨x, rfl, hnc, hc⟩⟩ := h
  · have hL : L = [] := List.length_eq_zero_iff.1 hn
    subst hL
    go_enter Tryz.func51, Tryz.ntmps51
    go_wp2
    go_ret
    exact ⟨_, rfl, hown, (Below.refl _ _).alloc (Nat.le_refl _) _⟩
  · have hnews : ∀ j u, (L.map (Value.int .i64))[j]? = some u → (w.alloc (.cells #[] 3)).cell? (x.add j) = some u := fun j u hu => by
      have hj : j < n := by
        rcases Nat.lt_or_ge j n with h | h
        · exact h
        · rw [List.getElem?_eq_none (by rw [List.length_map]; omega)] at hu; cases hu
      have h1 := hc j hj
      rw [((Below.refl _ w).alloc (Nat.le_refl _) _).cell (by exact cell_lt h1), h1, ← hu, List.getElem?_map, List.getD_eq_getElem?_getD, List.getElem?_eq_getElem (by omega)]
      rfl
    have HN : Hid (L.length = n) := hn
    clear hc hn
    go_enter Tryz.func51, Tryz.ntmps51
    go_wp2_with (at_builtin; refine wpList_append_own _ rfl _ _ 33 rfl w.heap.size 3 i0 (.int .i64 0) 1 8 Tryz.underlying33 hi hz0 hz1 hz2 rfl (by decide) _ _ _ rfl hown x n cap (L.map (Value.int .i64)) rfl (by rw [List.length_map, HN.out]; omega) hnews (ints_oneCell _ _) (by unfold maxLen; omega) (by omega) (by simp) ?_)
    intro v' w' h1 h2 h3
    have HO : Hid (w'.ownsRow w.heap.size 3 1 v' n (L.map (Value.int .i64))) := h1
    have HB : Hid (Below w.heap.size w w') := ((Below.refl _ _).alloc (Nat.le_refl _) _).grown h2 (by simp) fun k hk => by
      have : w.heap.size = k := by simpa [Value.ownBlock] using hk
      omega
    clear h1 h2 h3 hnews hown
    go_wp2
    go_ret
    exact ⟨_, rfl, HO.out, HB.out⟩

theorem own_bounds {w : World} {B g n cap : Nat} {xs : List Value} (h : w.ownsRow B 3 1 (.slice (some ⟨g, 0, none⟩) n cap) n xs) : B ≤ g ∧ n ≤ cap := by
  rcases h.2 with ⟨h', _⟩ | ⟨g', cap', cur, h', hb, hg, hn, _⟩
  · simp at h'
  · simp only [Value.slice.injEq, Option.some.injEq, Addr.mk.injEq, and_true, true_and] at h'
    obtain ⟨rfl, rfl⟩ := h'
    exact ⟨hb, hn⟩

theorem own_short {w : World} {B g n cap : Nat} {L : List Int} {ys : List Value} (h : w.ownsRow B 3 1 (.slice (some ⟨g, 0, none⟩) (n + 2) cap) (n + 2) (L.map (Value.int .i64) ++ ys)) (hn : L.length = n) : Owns B w (.slice (some ⟨g, 0, none⟩) n cap) L := by
  subst hn
  refine ⟨by simp, .inr ?_⟩
  rcases h.2 with ⟨h', _⟩ | ⟨g', cap', cur, h', hb, hg, hn, hm, hs, ht⟩
  · simp at h'
  · simp only [Value.slice.injEq, Option.some.injEq, Addr.mk.injEq, and_true, true_and] at h'
    obtain ⟨rfl, rfl⟩ := h'
    refine ⟨g, cap, cur, rfl, hb, hg, by omega, hm, hs, ?_⟩
    have e : cur.toList.take (L.length * 1) = (cur.toList.take ((L.length + 2) * 1)).take L.length := by
      rw [List.take_take]; congr 1; omega
    rw [e, ht, List.take_left' (by simp)]
/-- The row lent: L, and two marks behind it. -/
def lentL (L : List Int) : List Int := L ++ [-7777, -8888]
def Lent (w : World) (g n cap : Nat) (L : List Int) : Prop :=
  L.length = n ∧ n + 2 ≤ cap ∧ ∀ j, j < n + 2 → w.cell? ⟨g, j, none⟩ = some (.int .i64 ((lentL L).getD j 0))

set_option maxRecDepth 100000 in
set_option maxHeartbeats 1000000 in
theorem lend_any (a : Option Addr) (n cap : Nat) (L : List Int) (w : World) (h : Came w a n cap L) (hb : n * 8 ≤ 140737488351232) :
    Calls Tryz.prog 16 #[.slice a n cap] w fun e w' => ∃ g c, e = .returned (.slice (some ⟨g, 0, none⟩) n c) ∧ w.heap.size ≤ g ∧ g < w'.heap.size ∧ Hid (Lent w' g n c L) ∧ Hid (Owns w.heap.size w' (.slice (some ⟨g, 0, none⟩) n c) L) ∧ Below w.heap.size w w' := by
  obtain ⟨i0, hi, hz0, hz1, hz2⟩ := info_parts info3
  have hn : Hid (L.length = n) := h.1
  have H : Hid (Came w a n cap L) := h
  clear h
  go_enter Tryz.func16, Tryz.ntmps16
  go_wp2_with fail
  refine (copy_any a n cap L _ H.out hb).mono ?_
  rintro e w1 ⟨v, rfl, hown, b1⟩
  have hsz : w.heap.size ≤ w1.heap.size := b1.size
  go_wp2_with (at_builtin; refine wpList_append_lies _ rfl _ _ 33 rfl w.heap.size 3 i0 (.int .i64 0) 1 8 Tryz.underlying33 hi hz0 hz1 hz2 rfl (by decide) _ _ _ rfl (hown.alloc _) ⟨w1.heap.size, 0, none⟩ 2 2 [.int .i64 (-7777), .int .i64 (-8888)] rfl rfl ?c1 ?c2 (by decide) ?c3 ?c4 ?c5 (w1.heap.size + 1) (by simp) ?_)
  case c1 =>
    intro j u hj
    match j, hj with
    | 0, hj => simp at hj; subst hj; simp [Addr.add]
    | 1, hj => simp at hj; subst hj; simp [Addr.add]
  case c2 => intro u hu; simp at hu; rcases hu with rfl | rfl <;> rfl
  case c3 => unfold maxLen; omega
  case c4 => omega
  case c5 => simp; omega
  intro g c w2 hown2 hgrow hat hlt
  obtain ⟨hgb, hnc⟩ := own_bounds hown2
  have HB : Hid (Below w.heap.size w w2) := ((b1.trans ((Below.refl _ _).alloc hsz _))).grown hgrow (by simp; omega) fun k hk => (hown.lt k hk).1
  have HL : Hid (Lent w2 g n c L) := by
    refine ⟨hn.out, hnc, fun j hj => ?_⟩
    rw [hown2.cellAt j (by omega), show L.map (Value.int .i64) ++ [.int .i64 (-7777), .int .i64 (-8888)] = (lentL L).map (Value.int .i64) from by simp [lentL], List.getElem?_map, List.getD_eq_getElem?_getD, List.getElem?_eq_getElem (by rw [lentL, List.length_append, hn.out]; exact hj)]
    rfl
  have HW : Hid (Owns w.heap.size w2 (.slice (some ⟨g, 0, none⟩) n c) L) := own_short hown2 hn.out
  clear hown hown2 hgrow hat b1
  have h1 : (n : Int) ≤ c := by omega
  go_wp2
  go_ret
  exact ⟨g, c, rfl, hgb, hlt, HL, HW, HB.out⟩

theorem Lent.below {w w' : World} {g n cap B : Nat} {L : List Int} (h : Lent w g n cap L) (b : Below B w w') (hg : g < B) : Lent w' g n cap L :=
  ⟨h.1, h.2.1, fun j hj => (b.cell (by exact hg)).trans (h.2.2 j hj)⟩
theorem Lent.reads {w : World} {g n cap : Nat} {L : List Int} (h : Lent w g n cap L) : Reads w (.slice (some ⟨g, 0, none⟩) n cap) L := by
  obtain ⟨rfl, h2, h3⟩ := h
  refine ⟨_, cap, rfl, fun _ => ⟨g, 0, rfl, fun j hj => ?_⟩⟩
  rw [Nat.zero_add, h3 j (by omega), lentL, List.getD_eq_getElem?_getD, List.getElem?_append_left hj, List.getD_eq_getElem?_getD]
theorem Lent.marks {w : World} {g n cap : Nat} {L : List Int} (h : Lent w g n cap L) : w.cell? ⟨g, n, none⟩ = some (.int .i64 (-7777)) ∧ w.cell? ⟨g, n + 1, none⟩ = some (.int .i64 (-8888)) := by
  obtain ⟨rfl, h2, h3⟩ := h
  constructor
  · rw [h3 _ (by omega), lentL, List.getD_eq_getElem?_getD, List.getElem?_append_right (by omega), Nat.sub_self]; rfl
  · rw [h3 _ (by omega), lentL, List.getD_eq_getElem?_getD, List.getElem?_append_right (by omega), show L.length + 1 - L.length = 1 by omega]; rfl
set_option maxRecDepth 100000 in
set_option maxHeartbeats 1000000 in
theorem kept_any (a : Option Addr) (g n c cap : Nat) (L : List Int) (w : World) (h : Lent w g n c L) (ha : Reads w (.slice a n cap) L) (hb : n * 8 ≤ 140737488351232) :
    Calls Tryz.prog 19 #[.slice (some ⟨g, 0, none⟩) n c, .slice a n cap] w fun e w' => e = .returned (.bool true) ∧ Below w.heap.size w w' := by
  have hn : L.length * 8 ≤ 140737488351232 := by rw [h.1]; exact hb
  have hnc := h.2.1
  have R1 : Hid (Reads w (.slice (some ⟨g, 0, none⟩) n c) L) := h.reads
  have R2 : Hid (Reads w (.slice a n cap) L) := ha
  have H : Hid (Lent w g n c L) := h
  have HN : Hid (L.length * 8 ≤ 140737488351232) := hn
  clear h ha hn
  have h1 : (n : Int) + 2 ≤ c := by omega
  go_enter Tryz.func19, Tryz.ntmps19
  go_wp2_with fail
  refine (same_any _ _ L L _ R1.out R2.out HN.out HN.out).mono ?_
  rintro e w1 ⟨rfl, b1⟩
  rw [show decide (L = L) = true from by simp]
  have hg : g < w.heap.size := by exact cell_lt H.out.marks.1
  obtain ⟨m1, m2⟩ := (H.out.below b1 hg).marks
  go_wp2
  go_ret
  exact ⟨rfl, b1⟩
set_option maxRecDepth 100000 in
set_option maxHeartbeats 1000000 in
theorem spoil_any (B : Nat) (v : Value) (L : List Int) (w : World) (h : Owns B w v L) (hl : L.length * 8 ≤ 140737488351232) :
    Calls Tryz.prog 20 #[v] w fun e w' => e = .returned (.tuple #[]) ∧ Below B w w' ∧ ∀ g, v.ownBlock = some g → Only g w w' := by
  have h00 := h
  rcases h.2 with ⟨rfl, hn⟩ | ⟨g, cap, cur, rfl, hb, -⟩
  · clear h h00
    go_enter Tryz.func20, Tryz.ntmps20
    go_wp2
    refine wp_loop_rounds 1 ?_
    rw [rounds_succ]
    go_wp2
    go_end0
    exact ⟨rfl, Below.refl _ _, fun g _ => Only.refl g _⟩
  · clear h
    obtain ⟨n, hn⟩ : ∃ n, n = L.length := ⟨_, rfl⟩
    rw [← hn] at hl
    have h0 : w.ownsRow B 3 1 (.slice (some ⟨g, 0, none⟩) n cap) n (L.map (Value.int .i64)) := by rw [hn]; exact h00
    rw [← hn]
    clear h00
    have HN : Hid (n = L.length) := hn
    clear hn
    go_enter Tryz.func20, Tryz.ntmps20
    go_wp2
    go_loopw [2] (fun i wr => ∃ k : Nat, k ≤ n ∧ i = .int .i64 k ∧ (∃ M : List Int, wr.ownsRow B 3 1 (.slice (some ⟨g, 0, none⟩) n cap) n (M.map (Value.int .i64)) ∧ M.length = n) ∧ Below B w wr ∧ Hid (Only g w wr)) (fun i _ => n - (intOf i).toNat)
    case atStart => exact ⟨0, Nat.zero_le _, rfl, ⟨L, h0, HN.out.symm⟩, Below.refl _ _, Only.refl _ _⟩
    case round =>
      obtain ⟨k, hk, rfl, ⟨M, hM, hlen⟩, hbl, HO⟩ := hrel
      clear h0
      by_cases hlt : k < n
      · obtain ⟨x, hx⟩ : ∃ x, x = M.getD k 0 := ⟨_, rfl⟩
        have hc : wr.cell? ⟨g, k, none⟩ = some (.int .i64 x) := by
          rw [hM.cellAt k (by omega), hx, List.getElem?_map, List.getD_eq_getElem?_getD, List.getElem?_eq_getElem (by omega)]
          rfl
        have hf := hM.frozenAt k
        have HM : Hid (wr.ownsRow B 3 1 (.slice (some ⟨g, 0, none⟩) n cap) n (M.map (Value.int .i64))) := hM
        have HL : Hid (M.length = n) := hlen
        have HB : Hid (Below B w wr) := hbl
        clear hM hlen hbl hx
        go_wp2
        go_roundw
        case rel =>
          refine ⟨k + 1, by omega, by go_num, ?_, HB.out.setCell (by exact hb) _, HO.out.set _ _⟩
          refine Exists.intro (M.set k (wrap64 (-9 - x))) ⟨?_, by rw [List.length_set]; exact HL.out⟩
          rw [List.map_set]
          exact (HM.out.stored k _).1
        case measure => simp [intOf]; omega
      · have HB : Hid (Below B w wr) := hbl
        clear hM hlen hbl
        go_wp2
        go_end0
        exact ⟨rfl, HB.out, fun g' hg' => by
          have e : g = g' := by simpa [Value.ownBlock] using hg'
          exact e ▸ HO.out⟩
/-- A row whose block was not turned. -/
theorem owns_same {B g n c : Nat} {w w' : World} {L : List Int} (h : Owns B w (.slice (some ⟨g, 0, none⟩) n c) L) (k : w'.heap[g]? = w.heap[g]?) : Owns B w' (.slice (some ⟨g, 0, none⟩) n c) L := by
  refine ⟨h.1, ?_⟩
  rcases h.2 with h3 | ⟨g2, cap, cur, hv, hB, hg2, hr⟩
  · exact .inl h3
  · have e : g = g2 := by
      have := congrArg Value.ownBlock hv
      simpa [Value.ownBlock] using this
    subst e
    exact .inr ⟨g, cap, cur, hv, hB, k.trans hg2, hr⟩
theorem lent_same {g n c : Nat} {w w' : World} {L : List Int} (h : Lent w g n c L) (k : w'.heap[g]? = w.heap[g]?) (hg : g < w.heap.size) : Lent w' g n c L :=
  ⟨h.1, h.2.1, fun j hj => by rw [World.cell?_of_block (w := w) k]; exact h.2.2 j hj⟩
theorem came_some {u : World} {a : Option Addr} {n c : Nat} {L : List Int} (h : Came u a n c L) (hn : 0 < n) : ∃ g o, a = some ⟨g, o, none⟩ := by
  obtain ⟨a', cap, e, hr⟩ := h.reads
  simp only [Value.slice.injEq] at e
  obtain ⟨rfl, e2, -⟩ := e
  obtain ⟨g, o, e3, -⟩ := hr (by omega)
  exact ⟨g, o, e3⟩
theorem came_cell {u : World} {g o n c : Nat} {L : List Int} (h : Came u (some ⟨g, o, none⟩) n c L) (t : Nat) (ht : t < n) : u.cell? ⟨g, o + t, none⟩ = some (.int .i64 (L.getD t 0)) := by
  obtain ⟨a', cap, e, hr⟩ := h.reads
  simp only [Value.slice.injEq] at e
  obtain ⟨rfl, e2, -⟩ := e
  obtain ⟨g', o', e3, hc⟩ := hr (by omega)
  simp only [Option.some.injEq, Addr.mk.injEq, and_true] at e3
  obtain ⟨rfl, rfl⟩ := e3
  exact hc t (by omega)
end Go.Proofs.YthhchfldgkgfpaaGreat
end
