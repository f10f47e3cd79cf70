/-
  Data that come in: the document's chip, by contracts. Conditions: the chip lies in memory as told, and is one that may be.
-/
import Derived.Test.YtlemmabgbaleiaaGreatRData
import Derived.Deep.AppendLies
import Derived.Deep.RegionLaw
namespace Go.Proofs.YtlemmabgbaleiaaGreat
open Go.RowKit Plain
set_option linter.unusedVariables false

theorem came_one (a x : Nat) (ha : a < 16777216) : bits .or .i64 ((a : Int) * 2) (bits .and .i64 (x : Int) 1) = ((a * 2 + x % 2 : Nat) : Int) := came_val a x 1 ha (by decide)

set_option maxRecDepth 100000 in
set_option maxHeartbeats 2000000 in
theorem rdata_more (b : Nat) (r : RSt) (wv dv iv : Value) (x : Nat) (w : World) (h : RAt w b r wv dv iv) (hk : r.op.data = 1) (hi : r.op.inn = true) (hb : r.bits + 1 < 8) (hx : r.x < 16777216) :
    Calls Tryz.prog 117 #[.pointer (some ⟨b, 0, none⟩), .int .i64 (x : Int)] w fun e w' => e = .returned (.int .i64 ((r.data x).2 : Int)) ∧ RAt w' b (r.data x).1 wv dv iv ∧ Only b w w' := by
  have HE : Hid (r.data x = ({ r with x := r.x * 2 + x % 2, bits := r.bits + 1 }, 15)) := by rw [Hid]; unfold RSt.data; rw [if_neg (by omega), if_pos hi, if_neg (by omega)]
  have HV : Hid (bits .or .i64 ((r.x : Int) * 2) (bits .and .i64 (x : Int) 1) = ((r.x * 2 + x % 2 : Nat) : Int)) := came_one r.x x hx
  have c17 : w.cell? ⟨b, 17, none⟩ = some (.int .i64 1) := by rw [Blk.cell h 17 rfl, hk]; rfl
  have c18 : w.cell? ⟨b, 18, none⟩ = some (.bool true) := by rw [Blk.cell h 18 rfl, hi]
  have c21 : w.cell? ⟨b, 21, none⟩ = some (.int .i64 (r.bits : Int)) := Blk.cell h 21 rfl
  have c22 : w.cell? ⟨b, 22, none⟩ = some (.int .i64 (r.x : Int)) := Blk.cell h 22 rfl
  have f21 := Blk.frozen h 21
  have f22 := Blk.frozen h 22
  have h1 : RAt ((w.setCell ⟨b, 22, none⟩ (.int .i64 ((r.x * 2 + x % 2 : Nat) : Int))).setCell ⟨b, 21, none⟩ (.int .i64 ((r.bits : Int) + 1))) b { r with x := r.x * 2 + x % 2, bits := r.bits + 1 } wv dv iv := Blk.set (Blk.set h 22 _) 21 _
  have o1 : Only b w ((w.setCell ⟨b, 22, none⟩ (.int .i64 ((r.x * 2 + x % 2 : Nat) : Int))).setCell ⟨b, 21, none⟩ (.int .i64 ((r.bits : Int) + 1))) := ((Only.refl b w).set 22 _).set 21 _
  have ed : (((r.bits : Int) + 1) == 8) = false := beq_eq_false_iff_ne.2 (by omega)
  have hb8 : r.bits < 8 := by omega
  clear h hk hi hb
  go_enter Tryz.func117, Tryz.ntmps117
  go_upto_region 7 with fail
  rw [HV.out]
  generalize ((w.setCell ⟨b, 22, none⟩ (.int .i64 ((r.x * 2 + x % 2 : Nat) : Int))).setCell ⟨b, 21, none⟩ (.int .i64 ((r.bits : Int) + 1))) = W at h1 o1 ⊢
  clear c17 c18 c21 c22 f21 f22 HV
  have c21 : W.cell? ⟨b, 21, none⟩ = some (.int .i64 ((r.bits : Int) + 1)) := Blk.cell h1 21 rfl
  go_wp2
  go_ret
  rw [HE.out]
  exact ⟨rfl, h1, o1⟩

theorem reads_blk {w : World} {v : Value} {L : List Int} (h : Reads w v L) : ∀ k, v.ownBlock = some k → 0 < L.length → k < w.heap.size := fun k hk h0 => by
  obtain ⟨a, cap, rfl, hr⟩ := h
  obtain ⟨g, o, rfl, hc⟩ := hr h0
  have e : g = k := by simpa [Value.ownBlock] using hk
  subst e
  exact cell_lt (hc 0 h0)
theorem reads_grown {w w' : World} {v : Value} {L : List Int} {row : Option Nat} (h : Reads w v L) (hg : w.grownBy w' row) (hb : ∀ k, v.ownBlock = some k → 0 < L.length → row ≠ some k) : Reads w' v L := by
  have hlt := reads_blk h
  obtain ⟨a, cap, rfl, hr⟩ := h
  refine ⟨a, cap, rfl, fun h0 => ?_⟩
  obtain ⟨g, o, rfl, hc⟩ := hr h0
  refine ⟨g, o, rfl, fun j hj => ?_⟩
  rw [World.cell?_of_block (w := w) (hg.block g (hlt g rfl h0) (fun e => hb g rfl h0 e.symm))]
  exact hc j hj
theorem Rows3.grown {F : Nat → Prop} {u v w' : World} {b g n c H : Nat} {W D : List Int} {I I' : List Nat} {wv dv iv : Value} (h : Rows3 F u v b W D I wv dv iv) (hg : v.grownBy w' iv.ownBlock)
    (ho : Owns 0 w' (.slice (some ⟨g, 0, none⟩) n c) (nsL I')) (hat : iv.ownBlock = some g ∨ g = H) (hH : v.heap.size = H) (hb : b < v.heap.size) (hu : u.heap.size ≤ v.heap.size) : Rows3 F u w' b W D I' wv dv (.slice (some ⟨g, 0, none⟩) n c) := by
  obtain ⟨gw, e, hgw, hown, hne, hd, hi⟩ := h.wiped
  have hgl : gw < v.heap.size := hgw.lt
  have hdl := reads_blk h.durs
  have hit : ∀ k, (Value.slice (some ⟨g, 0, none⟩) n c).ownBlock = some k → k = g := fun k hk => by
    have : g = k := by simpa [Value.ownBlock] using hk
    exact this.symm
  refine ⟨⟨gw, e, ?_, hown, hne, hd, fun k hk => ?_⟩, reads_grown h.durs hg (fun k hk h0 e => (h.dblk k hk h0).2.2 k e rfl), h.dcap, fun k hk h0 => ⟨(h.dblk k hk h0).1, (h.dblk k hk h0).2.1, fun j hj => ?_⟩, ho, fun k hk => ?_⟩
  · have k1 := hgw
    unfold Blk at k1 ⊢
    rw [hg.block gw hgl (fun e => hi gw e.symm rfl)]
    exact k1
  · rw [hit k hk]
    rcases hat with ha | ha
    · exact hi g ha
    · omega
  · rw [hit j hj]
    rcases hat with ha | ha
    · exact (h.dblk k hk h0).2.2 g ha
    · have := hdl k hk h0; omega
  · rw [hit k hk]
    rcases hat with ha | ha
    · exact h.iblk g ha
    · exact ⟨by omega, .inr (by omega)⟩

set_option maxRecDepth 100000 in
set_option maxHeartbeats 2000000 in
theorem rdata_full (F : Nat → Prop) (u : World) (b : Nat) (r : RSt) (wv dv iv : Value) (x : Nat) (w : World) (h : RAt w b r wv dv iv) (hk : r.op.data = 1) (hi : r.op.inn = true) (hb : r.bits + 1 = 8) (hx : r.x < 16777216)
    (hr : Rows3 F u w b r.wiped r.durs r.inn wv dv iv) (ht : Turns F u w) (hm : Own F u b) (hl : r.inn.length ≤ 1000000) :
    Calls Tryz.prog 117 #[.pointer (some ⟨b, 0, none⟩), .int .i64 (x : Int)] w fun e w' => ∃ iv', e = .returned (.int .i64 ((r.data x).2 : Int)) ∧ RAt w' b (r.data x).1 wv dv iv' ∧ Rows3 F u w' b r.wiped r.durs (r.inn ++ [r.x * 2 + x % 2]) wv dv iv' ∧ Turns F u w' := by
  obtain ⟨i0, hi0, hz0, hz1, hz2⟩ := info_parts info3
  obtain ⟨X, HX⟩ := hid_is (r.x * 2 + x % 2)
  have HE : Hid (r.data x = ({ r with inn := r.inn ++ [X], bits := 0, x := 0 }, 15)) := by rw [Hid, ← HX.out]; unfold RSt.data; rw [if_neg (by omega), if_pos hi, if_pos hb]
  have HV : Hid (bits .or .i64 ((r.x : Int) * 2) (bits .and .i64 (x : Int) 1) = (X : Int)) := by rw [← HX.out]; exact came_one r.x x hx
  have c17 : w.cell? ⟨b, 17, none⟩ = some (.int .i64 1) := by rw [Blk.cell h 17 rfl, hk]; rfl
  have c18 : w.cell? ⟨b, 18, none⟩ = some (.bool true) := by rw [Blk.cell h 18 rfl, hi]
  have c21 : w.cell? ⟨b, 21, none⟩ = some (.int .i64 (r.bits : Int)) := Blk.cell h 21 rfl
  have c22 : w.cell? ⟨b, 22, none⟩ = some (.int .i64 (r.x : Int)) := Blk.cell h 22 rfl
  have f21 := Blk.frozen h 21
  have f22 := Blk.frozen h 22
  have h1 : RAt ((w.setCell ⟨b, 22, none⟩ (.int .i64 (X : Int))).setCell ⟨b, 21, none⟩ (.int .i64 ((r.bits : Int) + 1))) b { r with x := X, bits := r.bits + 1 } wv dv iv := Blk.set (Blk.set h 22 _) 21 _
  have o1 : Only b w ((w.setCell ⟨b, 22, none⟩ (.int .i64 (X : Int))).setCell ⟨b, 21, none⟩ (.int .i64 ((r.bits : Int) + 1))) := ((Only.refl b w).set 22 _).set 21 _
  have ed : (((r.bits : Int) + 1) == 8) = true := beq_iff_eq.2 (by omega)
  have hob : ∀ k, iv.ownBlock = some k → k ≠ b := fun k hk => (hr.iblk k hk).1
  have HR : Hid (Rows3 F u w b r.wiped r.durs r.inn wv dv iv) := hr
  have HT : Hid (Turns F u w) := ht
  have hb8 : r.bits < 8 := by omega
  clear h hk hi hb hr ht
  go_enter Tryz.func117, Tryz.ntmps117
  go_upto_region 7 with fail
  rw [HV.out]
  have hr1 := HR.out.only o1
  have ht1 := HT.out.only o1 hm
  generalize ((w.setCell ⟨b, 22, none⟩ (.int .i64 (X : Int))).setCell ⟨b, 21, none⟩ (.int .i64 ((r.bits : Int) + 1))) = W at h1 o1 hr1 ht1 ⊢
  clear c17 c18 c21 c22 f21 f22 HV
  have c21 : W.cell? ⟨b, 21, none⟩ = some (.int .i64 ((r.bits : Int) + 1)) := Blk.cell h1 21 rfl
  have c22 : W.cell? ⟨b, 22, none⟩ = some (.int .i64 (X : Int)) := Blk.cell h1 22 rfl
  have c27 : W.cell? ⟨b, 27, none⟩ = some iv := Blk.cell h1 27 rfl
  have hbl : b < W.heap.size := Blk.lt h1
  go_upto_region 8 with fail
  have hbn : b < W.heap.size := hbl
  have HRow : Hid (((W.alloc (.cells #[.int .i64 (X : Int)] 3)).drew).ownsRow 0 3 1 iv (nsL r.inn).length ((nsL r.inn).map (Value.int .i64))) := World.ownsRow.alloc hr1.inn _
  have HNews : Hid (∀ j u, [Value.int .i64 (X : Int)][j]? = some u → ((W.alloc (.cells #[.int .i64 (X : Int)] 3)).drew).cell? ((⟨W.heap.size, 0, none⟩ : Addr).add j) = some u) := fun j u hj => by
    match j, hj with
    | 0, hj => simp at hj; subst hj; simp [Addr.add]
  have H1c : Hid (∀ u ∈ [Value.int .i64 (X : Int)], u.oneCell' = true) := fun u hu => by simp at hu; subst hu; rfl
  have HM : Hid ((nsL r.inn).length + 1 ≤ maxLen) := by rw [Hid, nsL_length]; unfold maxLen; omega
  have HBy : Hid (((nsL r.inn).length + 1) * 8 ≤ 140737488355328) := by rw [Hid, nsL_length]; omega
  have HSz : Hid (((W.alloc (.cells #[.int .i64 (X : Int)] 3)).drew).heap.size = W.heap.size + 1) := by rw [Hid]; simp
  have HK : Hid (∀ (g : Nat) (w1 : World), ((W.alloc (.cells #[.int .i64 (X : Int)] 3)).drew).grownBy w1 iv.ownBlock → Blk w1 b 81 (rCells { r with x := X, bits := r.bits + 1 } wv dv iv)) := fun g w1 hg => by
    have k1 : Blk ((W.alloc (.cells #[.int .i64 (X : Int)] 3)).drew) b 81 (rCells { r with x := X, bits := r.bits + 1 } wv dv iv) := Blk.drew (Blk.alloc h1 _)
    have hlt := k1.lt
    unfold Blk at k1 ⊢
    rw [hg.block b hlt (fun e => hob b e.symm rfl)]
    exact k1
  have H1 : Hid (RAt W b { r with x := X, bits := r.bits + 1 } wv dv iv) := h1
  clear h1
  go_region_law (refine step_append_lies _ rfl (.tmp 46) (.tmp 51) 23 rfl 0 3 i0 (.int .i64 0) 1 8 Tryz.underlying23 hi0 hz0 hz1 hz2 rfl (by decide) iv _ _ (by simp [Act.eval]) HRow.out ⟨W.heap.size, 0, none⟩ 1 1 [.int .i64 (X : Int)] (by simp [Act.eval]) rfl HNews.out H1c.out (by decide) HM.out HBy.out (Nat.zero_le _) (W.heap.size + 1) HSz.out ?_; intro g cap w1 hown hgrow hat hlt; (have k1 := HK.out g w1 hgrow); (have k27 : w1.cell? ⟨b, 27, none⟩ = some iv := Blk.cell k1 27 rfl); (have g27 := Blk.frozen k1 27))
  all_goals
    have hrA : Rows3 F u ((W.alloc (.cells #[.int .i64 (X : Int)] 3)).drew) b r.wiped r.durs r.inn wv dv iv := hr1.only ((Only.of_below (below_new W _)).drew)
    have HO2 : Owns 0 w1 (.slice (some ⟨g, 0, none⟩) ((nsL r.inn).length + 1) cap) (nsL (r.inn ++ [X])) := by
      have e : nsL (r.inn ++ [X]) = nsL r.inn ++ [(X : Int)] := by simp [nsL]
      rw [e, Owns, List.map_append, List.length_append]; exact hown
    have hr2 := hrA.grown hgrow HO2 hat HSz.out (by rw [HSz.out]; omega) (by have := ht1.size; rw [HSz.out]; omega)
    have ht2 : Turns F u w1 := ((ht1.alloc _).drew).grown hgrow (fun k hk => (hrA.iblk k hk).2)
    have h3 : RAt (((w1.setCell ⟨b, 27, none⟩ (.slice (some ⟨g, 0, none⟩) ((nsL r.inn).length + 1) cap)).setCell ⟨b, 21, none⟩ (.int .i64 0)).setCell ⟨b, 22, none⟩ (.int .i64 0)) b { r with inn := r.inn ++ [X], bits := 0, x := 0 } wv dv (.slice (some ⟨g, 0, none⟩) ((nsL r.inn).length + 1) cap) := Blk.set (Blk.set (Blk.set k1 27 _) 21 _) 22 _
    have o3 : Only b w1 (((w1.setCell ⟨b, 27, none⟩ (.slice (some ⟨g, 0, none⟩) ((nsL r.inn).length + 1) cap)).setCell ⟨b, 21, none⟩ (.int .i64 0)).setCell ⟨b, 22, none⟩ (.int .i64 0)) := (((Only.refl b w1).set 27 _).set 21 _).set 22 _
    have k21 : w1.cell? ⟨b, 21, none⟩ = some (.int .i64 ((r.bits : Int) + 1)) := Blk.cell k1 21 rfl
    have k22 : w1.cell? ⟨b, 22, none⟩ = some (.int .i64 (X : Int)) := Blk.cell k1 22 rfl
    have g21 := Blk.frozen k1 21
    have g22 := Blk.frozen k1 22
    have FIN : Hid (Rows3 F u w1 b r.wiped r.durs (r.inn ++ [X]) wv dv (.slice (some ⟨g, 0, none⟩) ((nsL r.inn).length + 1) cap) ∧ Turns F u w1) := ⟨hr2, ht2⟩
    clear hr2 ht2 hrA HO2 hown hgrow hat hlt hr1 ht1 HRow HNews H1c HM HBy HSz HK k1 HR HT hob
    go_wp2
    go_ret
    rw [HE.out, HX.out]
    refine ⟨_, rfl, h3, ?_, FIN.out.2.only o3 hm⟩
    exact FIN.out.1.only o3
end Go.Proofs.YtlemmabgbaleiaaGreat
