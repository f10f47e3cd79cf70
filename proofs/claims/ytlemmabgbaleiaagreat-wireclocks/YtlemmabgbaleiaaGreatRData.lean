/-
  A clock of data: the document's chip tells a byte's bits, or takes some: by contracts. Conditions: the chip lies in memory as told, and is one that may be.
-/
import Derived.Test.YtlemmabgbaleiaaGreatRByte
import Derived.Test.YtlemmabgbaleiaaGreatData
import Derived.Test.YtlemmabgbaleiaaGreatHear
namespace Go.Proofs.YtlemmabgbaleiaaGreat
open Go.RowKit Plain
set_option linter.unusedVariables false

theorem rdata_none (b : Nat) (r : RSt) (wv dv iv : Value) (x : Nat) (w : World) (h : RAt w b r wv dv iv) (hd : r.op.data = 0) :
    Calls Tryz.prog 117 #[.pointer (some ⟨b, 0, none⟩), .int .i64 (x : Int)] w fun e w' => e = .returned (.int .i64 ((r.data x).2 : Int)) ∧ RAt w' b (r.data x).1 wv dv iv ∧ Only b w w' := by
  have e1 : r.data x = (r, 15) := if_pos hd
  rw [e1]
  have c17 : w.cell? ⟨b, 17, none⟩ = some (.int .i64 0) := by rw [Blk.cell h 17 rfl, hd]; rfl
  have H : Hid (RAt w b r wv dv iv) := h
  clear h hd e1
  go_enter Tryz.func117, Tryz.ntmps117
  go_wp2
  go_ret
  exact ⟨rfl, H.out, Only.refl _ _⟩
theorem hid_is {α : Type} (a : α) : ∃ t, Hid (a = t) := ⟨a, rfl⟩
theorem began_bits (r : RSt) : r.began.bits = r.bits := by unfold RSt.began; split <;> rfl
theorem began_op (r : RSt) : r.began.op = r.op := by unfold RSt.began; split <;> rfl
theorem ror_bits (o B k K : Nat) (hk : k ≤ 4) (hK : 8 - (B + k) = K) : bits .and .i64 ((o : Int) / 2 ^ K) (2 ^ k - 1) = ((o / 2 ^ (8 - (B + k)) % 2 ^ k : Nat) : Int) := by
  rw [and_mask _ k (by omega), hK]
  simp

set_option maxRecDepth 100000 in
set_option maxHeartbeats 2000000 in
theorem rdata_one_first (n b : Nat) (r : RSt) (wv dv iv : Value) (x : Nat) (w : World) (h : RAt w b r wv dv iv) (hk : r.op.data = 1) (hi : r.op.inn = false) (hz : r.bits = 0) (hb : r.bits + 1 ≤ 8) (hA : r.A.size = 4096) (ha : r.adr < 4096) (hs : r.sent ≤ n) (hn : n < 4611686018427387903) (hby : r.op.byte < 256) (ho : r.began.out < 256) :
    Calls Tryz.prog 117 #[.pointer (some ⟨b, 0, none⟩), .int .i64 (x : Int)] w fun e w' => e = .returned (.int .i64 ((r.data x).2 : Int)) ∧ RAt w' b (r.data x).1 wv dv iv ∧ Only b w w' := by
  obtain ⟨B, hB⟩ : ∃ B, r.bits = B := ⟨_, rfl⟩
  obtain ⟨y, Hy⟩ : ∃ y, Hid (r.began.out = y) := ⟨_, rfl⟩
  rw [Hy.out] at ho
  rw [hB] at hz hb
  have HE : Hid (r.data x = ({ r.began with bits := if B + 1 = 8 then 0 else B + 1 }, tellOut (y / 2 ^ (8 - (B + 1)) % 2 ^ 1) 1)) := by
    rw [Hid]; unfold RSt.data; rw [if_neg (by omega), if_neg (by rw [hi]; decide), hk, hB, Hy.out]
  have HO : Hid (bits .and .i64 ((y : Int) / 2 ^ (7 - B)) 1 = ((y / 2 ^ (8 - (B + 1)) % 2 ^ 1 : Nat) : Int)) := ror_bits y B 1 (7 - B) (by decide) (by omega)
  have HBB : Hid (r.began.bits = B) := by rw [Hid, began_bits, hB]
  have HKK : Hid (r.began.op.data = 1) := by rw [Hid, began_op, hk]
  have c17 : w.cell? ⟨b, 17, none⟩ = some (.int .i64 1) := by rw [Blk.cell h 17 rfl, hk]; rfl
  have c18 : w.cell? ⟨b, 18, none⟩ = some (.bool false) := by rw [Blk.cell h 18 rfl, hi]
  have c21 : w.cell? ⟨b, 21, none⟩ = some (.int .i64 (B : Int)) := by rw [← hB]; exact Blk.cell h 21 rfl
  have HB0 : Hid (r.began = { r with out := r.byteOut, sent := r.sent + 1 }) := if_pos (hB.trans hz)
  have HBY : Hid (∀ u : World, RAt u b r wv dv iv → Calls Tryz.prog 128 #[.pointer (some ⟨b, 0, none⟩)] u fun e w' => e = .returned (.int .i64 (r.byteOut : Int)) ∧ Below u.heap.size u w') := fun u hu => rbyteOut_any n b r wv dv iv u hu hA ha hs hn hby
  have hzi : ((B : Int) == 0) = true := beq_iff_eq.2 (by omega)
  have H : Hid (RAt w b r wv dv iv) := h
  obtain ⟨S, hS⟩ : ∃ S, r.sent = S := ⟨_, rfl⟩
  rw [hS] at hs
  have HS : Hid (r.sent = S) := hS
  obtain ⟨Y, HY⟩ : ∃ Y, Hid (r.byteOut = Y) := ⟨_, rfl⟩
  rw [HY.out] at HBY
  rw [HY.out] at HB0
  clear h hB hk hi hz hS
  go_enter Tryz.func117, Tryz.ntmps117
  go_wp2_with fail
  refine (HBY.out _ H.out).mono ?_
  rintro e w1 ⟨rfl, b1⟩
  have h1 := Blk.below H.out b1
  have c29 : w1.cell? ⟨b, 29, none⟩ = some (.int .i64 (r.out : Int)) := Blk.cell h1 29 rfl
  have c30 : w1.cell? ⟨b, 30, none⟩ = some (.int .i64 (S : Int)) := by rw [← HS.out]; exact Blk.cell h1 30 rfl
  have f29 := Blk.frozen h1 29
  have f30 := Blk.frozen h1 30
  have h2 : RAt ((w1.setCell ⟨b, 29, none⟩ (.int .i64 (Y : Int))).setCell ⟨b, 30, none⟩ (.int .i64 ((S : Int) + 1))) b r.began wv dv iv := by
    rw [HB0.out, HS.out]; exact Blk.set (Blk.set h1 29 _) 30 _
  have o2 : Only b w ((w1.setCell ⟨b, 29, none⟩ (.int .i64 (Y : Int))).setCell ⟨b, 30, none⟩ (.int .i64 ((S : Int) + 1))) := ((Only.of_below b1).set 29 _).set 30 _
  clear h1 c17 c18 c21
  go_upto_region 15 with fail
  generalize ((w1.setCell ⟨b, 29, none⟩ (.int .i64 (Y : Int))).setCell ⟨b, 30, none⟩ (.int .i64 ((S : Int) + 1))) = W2 at h2 o2 ⊢
  clear c29 c30 f29 f30 hzi b1
  have c21 : W2.cell? ⟨b, 21, none⟩ = some (.int .i64 (B : Int)) := by rw [← HBB.out]; exact Blk.cell h2 21 rfl
  have f21 := Blk.frozen h2 21
  have h3 : RAt (W2.setCell ⟨b, 21, none⟩ (.int .i64 ((B : Int) + 1))) b { r.began with bits := B + 1 } wv dv iv := Blk.set h2 21 _
  have o3 := o2.set 21 (.int .i64 ((B : Int) + 1))
  have H2 : Hid (RAt W2 b r.began wv dv iv) := h2
  clear h2 o2
  go_upto_region 16 with fail
  generalize W2.setCell ⟨b, 21, none⟩ (.int .i64 ((B : Int) + 1)) = W3 at h3 o3 ⊢
  clear c21 f21 H2
  have c21 : W3.cell? ⟨b, 21, none⟩ = some (.int .i64 ((B : Int) + 1)) := Blk.cell h3 21 rfl
  have c29 : W3.cell? ⟨b, 29, none⟩ = some (.int .i64 (y : Int)) := by rw [← Hy.out]; exact Blk.cell h3 29 rfl
  go_quiet (fail)
  rw [HO.out]
  have h4 : RAt (W3.drewN nq) b { r.began with bits := B + 1 } wv dv iv := RAt.drewN h3 nq
  have o4 := o3.drewN nq
  generalize W3.drewN nq = W4 at h4 o4 ⊢
  clear c21 c29 h3 o3 HO
  obtain ⟨o, Ho⟩ := hid_is (y / 2 ^ (8 - (B + 1)) % 2 ^ 1)
  rw [Ho.out]
  have ho : o < 2 := by rw [← Ho.out]; exact Nat.mod_lt _ (by decide)
  rw [Ho.out] at HE
  have c21 : W4.cell? ⟨b, 21, none⟩ = some (.int .i64 ((B : Int) + 1)) := Blk.cell h4 21 rfl
  have f21 := Blk.frozen h4 21
  by_cases ec : B + 1 = 8
  · have HE1 : Hid (r.data x = ({ r.began with bits := 0 }, tellOut o 1)) := by rw [Hid, HE.out, if_pos ec]
    have ed : (((B : Int) + 1) == 8) = true := beq_iff_eq.2 (by omega)
    clear ec HE
    go_wp2
    go_ret
    rw [HE1.out]
    exact ⟨ret_int (or_13 o ho), Blk.set h4 21 _, o4.set 21 _⟩
  · have HE1 : Hid (r.data x = ({ r.began with bits := B + 1 }, tellOut o 1)) := by rw [Hid, HE.out, if_neg ec]
    have ed : (((B : Int) + 1) == 8) = false := beq_eq_false_iff_ne.2 (by omega)
    clear ec HE
    go_wp2
    go_ret
    rw [HE1.out]
    exact ⟨ret_int (or_13 o ho), h4, o4⟩

set_option maxRecDepth 100000 in
set_option maxHeartbeats 2000000 in
theorem rdata_one (n b : Nat) (r : RSt) (wv dv iv : Value) (x : Nat) (w : World) (h : RAt w b r wv dv iv) (hk : r.op.data = 1) (hi : r.op.inn = false) (hz : r.bits ≠ 0) (hb : r.bits + 1 ≤ 8) (hA : r.A.size = 4096) (ha : r.adr < 4096) (hs : r.sent ≤ n) (hn : n < 4611686018427387903) (hby : r.op.byte < 256) (ho : r.began.out < 256) :
    Calls Tryz.prog 117 #[.pointer (some ⟨b, 0, none⟩), .int .i64 (x : Int)] w fun e w' => e = .returned (.int .i64 ((r.data x).2 : Int)) ∧ RAt w' b (r.data x).1 wv dv iv ∧ Only b w w' := by
  obtain ⟨B, hB⟩ : ∃ B, r.bits = B := ⟨_, rfl⟩
  obtain ⟨y, Hy⟩ : ∃ y, Hid (r.began.out = y) := ⟨_, rfl⟩
  rw [Hy.out] at ho
  rw [hB] at hz hb
  have HE : Hid (r.data x = ({ r.began with bits := if B + 1 = 8 then 0 else B + 1 }, tellOut (y / 2 ^ (8 - (B + 1)) % 2 ^ 1) 1)) := by
    rw [Hid]; unfold RSt.data; rw [if_neg (by omega), if_neg (by rw [hi]; decide), hk, hB, Hy.out]
  have HO : Hid (bits .and .i64 ((y : Int) / 2 ^ (7 - B)) 1 = ((y / 2 ^ (8 - (B + 1)) % 2 ^ 1 : Nat) : Int)) := ror_bits y B 1 (7 - B) (by decide) (by omega)
  have HBB : Hid (r.began.bits = B) := by rw [Hid, began_bits, hB]
  have HKK : Hid (r.began.op.data = 1) := by rw [Hid, began_op, hk]
  have c17 : w.cell? ⟨b, 17, none⟩ = some (.int .i64 1) := by rw [Blk.cell h 17 rfl, hk]; rfl
  have c18 : w.cell? ⟨b, 18, none⟩ = some (.bool false) := by rw [Blk.cell h 18 rfl, hi]
  have c21 : w.cell? ⟨b, 21, none⟩ = some (.int .i64 (B : Int)) := by rw [← hB]; exact Blk.cell h 21 rfl
  have HB0 : Hid (r.began = r) := if_neg (by omega)
  have hzi : ((B : Int) == 0) = false := beq_eq_false_iff_ne.2 (by omega)
  have h2 : RAt w b r.began wv dv iv := by rw [HB0.out]; exact h
  have o2 : Only b w w := Only.refl _ _
  clear h hB hk hi hz
  go_enter Tryz.func117, Tryz.ntmps117
  go_upto_region 15 with fail
  obtain ⟨W2, hW2⟩ : ∃ W2, W2 = w := ⟨_, rfl⟩
  replace o2 : Only b w W2 := by rw [hW2]; exact Only.refl _ _
  rw [← hW2] at h2 c17 c18 c21 ⊢
  clear hW2 c17 c18 c21 hzi
  have c21 : W2.cell? ⟨b, 21, none⟩ = some (.int .i64 (B : Int)) := by rw [← HBB.out]; exact Blk.cell h2 21 rfl
  have f21 := Blk.frozen h2 21
  have h3 : RAt (W2.setCell ⟨b, 21, none⟩ (.int .i64 ((B : Int) + 1))) b { r.began with bits := B + 1 } wv dv iv := Blk.set h2 21 _
  have o3 := o2.set 21 (.int .i64 ((B : Int) + 1))
  have H2 : Hid (RAt W2 b r.began wv dv iv) := h2
  clear h2 o2
  go_upto_region 16 with fail
  generalize W2.setCell ⟨b, 21, none⟩ (.int .i64 ((B : Int) + 1)) = W3 at h3 o3 ⊢
  clear c21 f21 H2
  have c21 : W3.cell? ⟨b, 21, none⟩ = some (.int .i64 ((B : Int) + 1)) := Blk.cell h3 21 rfl
  have c29 : W3.cell? ⟨b, 29, none⟩ = some (.int .i64 (y : Int)) := by rw [← Hy.out]; exact Blk.cell h3 29 rfl
  go_quiet (fail)
  rw [HO.out]
  have h4 : RAt (W3.drewN nq) b { r.began with bits := B + 1 } wv dv iv := RAt.drewN h3 nq
  have o4 := o3.drewN nq
  generalize W3.drewN nq = W4 at h4 o4 ⊢
  clear c21 c29 h3 o3 HO
  obtain ⟨o, Ho⟩ := hid_is (y / 2 ^ (8 - (B + 1)) % 2 ^ 1)
  rw [Ho.out]
  have ho : o < 2 := by rw [← Ho.out]; exact Nat.mod_lt _ (by decide)
  rw [Ho.out] at HE
  have c21 : W4.cell? ⟨b, 21, none⟩ = some (.int .i64 ((B : Int) + 1)) := Blk.cell h4 21 rfl
  have f21 := Blk.frozen h4 21
  by_cases ec : B + 1 = 8
  · have HE1 : Hid (r.data x = ({ r.began with bits := 0 }, tellOut o 1)) := by rw [Hid, HE.out, if_pos ec]
    have ed : (((B : Int) + 1) == 8) = true := beq_iff_eq.2 (by omega)
    clear ec HE
    go_wp2
    go_ret
    rw [HE1.out]
    exact ⟨ret_int (or_13 o ho), Blk.set h4 21 _, o4.set 21 _⟩
  · have HE1 : Hid (r.data x = ({ r.began with bits := B + 1 }, tellOut o 1)) := by rw [Hid, HE.out, if_neg ec]
    have ed : (((B : Int) + 1) == 8) = false := beq_eq_false_iff_ne.2 (by omega)
    clear ec HE
    go_wp2
    go_ret
    rw [HE1.out]
    exact ⟨ret_int (or_13 o ho), h4, o4⟩

set_option maxRecDepth 100000 in
set_option maxHeartbeats 2000000 in
theorem rdata_four_first (n b : Nat) (r : RSt) (wv dv iv : Value) (x : Nat) (w : World) (h : RAt w b r wv dv iv) (hk : r.op.data = 4) (hi : r.op.inn = false) (hz : r.bits = 0) (hb : r.bits + 4 ≤ 8) (hA : r.A.size = 4096) (ha : r.adr < 4096) (hs : r.sent ≤ n) (hn : n < 4611686018427387903) (hby : r.op.byte < 256) (ho : r.began.out < 256) :
    Calls Tryz.prog 117 #[.pointer (some ⟨b, 0, none⟩), .int .i64 (x : Int)] w fun e w' => e = .returned (.int .i64 ((r.data x).2 : Int)) ∧ RAt w' b (r.data x).1 wv dv iv ∧ Only b w w' := by
  obtain ⟨B, hB⟩ : ∃ B, r.bits = B := ⟨_, rfl⟩
  obtain ⟨y, Hy⟩ : ∃ y, Hid (r.began.out = y) := ⟨_, rfl⟩
  rw [Hy.out] at ho
  rw [hB] at hz hb
  have HE : Hid (r.data x = ({ r.began with bits := if B + 4 = 8 then 0 else B + 4 }, tellOut (y / 2 ^ (8 - (B + 4)) % 2 ^ 4) 4)) := by
    rw [Hid]; unfold RSt.data; rw [if_neg (by omega), if_neg (by rw [hi]; decide), hk, hB, Hy.out]
  have HO : Hid (bits .and .i64 ((y : Int) / 2 ^ (4 - B)) 15 = ((y / 2 ^ (8 - (B + 4)) % 2 ^ 4 : Nat) : Int)) := ror_bits y B 4 (4 - B) (by decide) (by omega)
  have HBB : Hid (r.began.bits = B) := by rw [Hid, began_bits, hB]
  have HKK : Hid (r.began.op.data = 4) := by rw [Hid, began_op, hk]
  have c17 : w.cell? ⟨b, 17, none⟩ = some (.int .i64 4) := by rw [Blk.cell h 17 rfl, hk]; rfl
  have c18 : w.cell? ⟨b, 18, none⟩ = some (.bool false) := by rw [Blk.cell h 18 rfl, hi]
  have c21 : w.cell? ⟨b, 21, none⟩ = some (.int .i64 (B : Int)) := by rw [← hB]; exact Blk.cell h 21 rfl
  have HB0 : Hid (r.began = { r with out := r.byteOut, sent := r.sent + 1 }) := if_pos (hB.trans hz)
  have HBY : Hid (∀ u : World, RAt u b r wv dv iv → Calls Tryz.prog 128 #[.pointer (some ⟨b, 0, none⟩)] u fun e w' => e = .returned (.int .i64 (r.byteOut : Int)) ∧ Below u.heap.size u w') := fun u hu => rbyteOut_any n b r wv dv iv u hu hA ha hs hn hby
  have hzi : ((B : Int) == 0) = true := beq_iff_eq.2 (by omega)
  have H : Hid (RAt w b r wv dv iv) := h
  obtain ⟨S, hS⟩ : ∃ S, r.sent = S := ⟨_, rfl⟩
  rw [hS] at hs
  have HS : Hid (r.sent = S) := hS
  obtain ⟨Y, HY⟩ : ∃ Y, Hid (r.byteOut = Y) := ⟨_, rfl⟩
  rw [HY.out] at HBY
  rw [HY.out] at HB0
  clear h hB hk hi hz hS
  go_enter Tryz.func117, Tryz.ntmps117
  go_wp2_with fail
  refine (HBY.out _ H.out).mono ?_
  rintro e w1 ⟨rfl, b1⟩
  have h1 := Blk.below H.out b1
  have c29 : w1.cell? ⟨b, 29, none⟩ = some (.int .i64 (r.out : Int)) := Blk.cell h1 29 rfl
  have c30 : w1.cell? ⟨b, 30, none⟩ = some (.int .i64 (S : Int)) := by rw [← HS.out]; exact Blk.cell h1 30 rfl
  have f29 := Blk.frozen h1 29
  have f30 := Blk.frozen h1 30
  have h2 : RAt ((w1.setCell ⟨b, 29, none⟩ (.int .i64 (Y : Int))).setCell ⟨b, 30, none⟩ (.int .i64 ((S : Int) + 1))) b r.began wv dv iv := by
    rw [HB0.out, HS.out]; exact Blk.set (Blk.set h1 29 _) 30 _
  have o2 : Only b w ((w1.setCell ⟨b, 29, none⟩ (.int .i64 (Y : Int))).setCell ⟨b, 30, none⟩ (.int .i64 ((S : Int) + 1))) := ((Only.of_below b1).set 29 _).set 30 _
  clear h1 c17 c18 c21
  go_upto_region 15 with fail
  generalize ((w1.setCell ⟨b, 29, none⟩ (.int .i64 (Y : Int))).setCell ⟨b, 30, none⟩ (.int .i64 ((S : Int) + 1))) = W2 at h2 o2 ⊢
  clear c29 c30 f29 f30 hzi b1
  have c21 : W2.cell? ⟨b, 21, none⟩ = some (.int .i64 (B : Int)) := by rw [← HBB.out]; exact Blk.cell h2 21 rfl
  have f21 := Blk.frozen h2 21
  have h3 : RAt (W2.setCell ⟨b, 21, none⟩ (.int .i64 ((B : Int) + 4))) b { r.began with bits := B + 4 } wv dv iv := Blk.set h2 21 _
  have o3 := o2.set 21 (.int .i64 ((B : Int) + 4))
  have H2 : Hid (RAt W2 b r.began wv dv iv) := h2
  clear h2 o2
  go_upto_region 16 with fail
  generalize W2.setCell ⟨b, 21, none⟩ (.int .i64 ((B : Int) + 4)) = W3 at h3 o3 ⊢
  clear c21 f21 H2
  have c21 : W3.cell? ⟨b, 21, none⟩ = some (.int .i64 ((B : Int) + 4)) := Blk.cell h3 21 rfl
  have c29 : W3.cell? ⟨b, 29, none⟩ = some (.int .i64 (y : Int)) := by rw [← Hy.out]; exact Blk.cell h3 29 rfl
  go_quiet (fail)
  rw [HO.out]
  have h4 : RAt (W3.drewN nq) b { r.began with bits := B + 4 } wv dv iv := RAt.drewN h3 nq
  have o4 := o3.drewN nq
  generalize W3.drewN nq = W4 at h4 o4 ⊢
  clear c21 c29 h3 o3 HO
  obtain ⟨o, Ho⟩ := hid_is (y / 2 ^ (8 - (B + 4)) % 2 ^ 4)
  rw [Ho.out]
  have ho : o < 16 := by rw [← Ho.out]; exact Nat.mod_lt _ (by decide)
  rw [Ho.out] at HE
  have c21 : W4.cell? ⟨b, 21, none⟩ = some (.int .i64 ((B : Int) + 4)) := Blk.cell h4 21 rfl
  have f21 := Blk.frozen h4 21
  by_cases ec : B + 4 = 8
  · have HE1 : Hid (r.data x = ({ r.began with bits := 0 }, tellOut o 4)) := by rw [Hid, HE.out, if_pos ec]
    have ed : (((B : Int) + 4) == 8) = true := beq_iff_eq.2 (by omega)
    clear ec HE
    go_wp2
    go_ret
    rw [HE1.out]
    exact ⟨rfl, Blk.set h4 21 _, o4.set 21 _⟩
  · have HE1 : Hid (r.data x = ({ r.began with bits := B + 4 }, tellOut o 4)) := by rw [Hid, HE.out, if_neg ec]
    have ed : (((B : Int) + 4) == 8) = false := beq_eq_false_iff_ne.2 (by omega)
    clear ec HE
    go_wp2
    go_ret
    rw [HE1.out]
    exact ⟨rfl, h4, o4⟩

set_option maxRecDepth 100000 in
set_option maxHeartbeats 2000000 in
theorem rdata_four (n b : Nat) (r : RSt) (wv dv iv : Value) (x : Nat) (w : World) (h : RAt w b r wv dv iv) (hk : r.op.data = 4) (hi : r.op.inn = false) (hz : r.bits ≠ 0) (hb : r.bits + 4 ≤ 8) (hA : r.A.size = 4096) (ha : r.adr < 4096) (hs : r.sent ≤ n) (hn : n < 4611686018427387903) (hby : r.op.byte < 256) (ho : r.began.out < 256) :
    Calls Tryz.prog 117 #[.pointer (some ⟨b, 0, none⟩), .int .i64 (x : Int)] w fun e w' => e = .returned (.int .i64 ((r.data x).2 : Int)) ∧ RAt w' b (r.data x).1 wv dv iv ∧ Only b w w' := by
  obtain ⟨B, hB⟩ : ∃ B, r.bits = B := ⟨_, rfl⟩
  obtain ⟨y, Hy⟩ : ∃ y, Hid (r.began.out = y) := ⟨_, rfl⟩
  rw [Hy.out] at ho
  rw [hB] at hz hb
  have HE : Hid (r.data x = ({ r.began with bits := if B + 4 = 8 then 0 else B + 4 }, tellOut (y / 2 ^ (8 - (B + 4)) % 2 ^ 4) 4)) := by
    rw [Hid]; unfold RSt.data; rw [if_neg (by omega), if_neg (by rw [hi]; decide), hk, hB, Hy.out]
  have HO : Hid (bits .and .i64 ((y : Int) / 2 ^ (4 - B)) 15 = ((y / 2 ^ (8 - (B + 4)) % 2 ^ 4 : Nat) : Int)) := ror_bits y B 4 (4 - B) (by decide) (by omega)
  have HBB : Hid (r.began.bits = B) := by rw [Hid, began_bits, hB]
  have HKK : Hid (r.began.op.data = 4) := by rw [Hid, began_op, hk]
  have c17 : w.cell? ⟨b, 17, none⟩ = some (.int .i64 4) := by rw [Blk.cell h 17 rfl, hk]; rfl
  have c18 : w.cell? ⟨b, 18, none⟩ = some (.bool false) := by rw [Blk.cell h 18 rfl, hi]
  have c21 : w.cell? ⟨b, 21, none⟩ = some (.int .i64 (B : Int)) := by rw [← hB]; exact Blk.cell h 21 rfl
  have HB0 : Hid (r.began = r) := if_neg (by omega)
  have hzi : ((B : Int) == 0) = false := beq_eq_false_iff_ne.2 (by omega)
  have h2 : RAt w b r.began wv dv iv := by rw [HB0.out]; exact h
  have o2 : Only b w w := Only.refl _ _
  clear h hB hk hi hz
  go_enter Tryz.func117, Tryz.ntmps117
  go_upto_region 15 with fail
  obtain ⟨W2, hW2⟩ : ∃ W2, W2 = w := ⟨_, rfl⟩
  replace o2 : Only b w W2 := by rw [hW2]; exact Only.refl _ _
  rw [← hW2] at h2 c17 c18 c21 ⊢
  clear hW2 c17 c18 c21 hzi
  have c21 : W2.cell? ⟨b, 21, none⟩ = some (.int .i64 (B : Int)) := by rw [← HBB.out]; exact Blk.cell h2 21 rfl
  have f21 := Blk.frozen h2 21
  have h3 : RAt (W2.setCell ⟨b, 21, none⟩ (.int .i64 ((B : Int) + 4))) b { r.began with bits := B + 4 } wv dv iv := Blk.set h2 21 _
  have o3 := o2.set 21 (.int .i64 ((B : Int) + 4))
  have H2 : Hid (RAt W2 b r.began wv dv iv) := h2
  clear h2 o2
  go_upto_region 16 with fail
  generalize W2.setCell ⟨b, 21, none⟩ (.int .i64 ((B : Int) + 4)) = W3 at h3 o3 ⊢
  clear c21 f21 H2
  have c21 : W3.cell? ⟨b, 21, none⟩ = some (.int .i64 ((B : Int) + 4)) := Blk.cell h3 21 rfl
  have c29 : W3.cell? ⟨b, 29, none⟩ = some (.int .i64 (y : Int)) := by rw [← Hy.out]; exact Blk.cell h3 29 rfl
  go_quiet (fail)
  rw [HO.out]
  have h4 : RAt (W3.drewN nq) b { r.began with bits := B + 4 } wv dv iv := RAt.drewN h3 nq
  have o4 := o3.drewN nq
  generalize W3.drewN nq = W4 at h4 o4 ⊢
  clear c21 c29 h3 o3 HO
  obtain ⟨o, Ho⟩ := hid_is (y / 2 ^ (8 - (B + 4)) % 2 ^ 4)
  rw [Ho.out]
  have ho : o < 16 := by rw [← Ho.out]; exact Nat.mod_lt _ (by decide)
  rw [Ho.out] at HE
  have c21 : W4.cell? ⟨b, 21, none⟩ = some (.int .i64 ((B : Int) + 4)) := Blk.cell h4 21 rfl
  have f21 := Blk.frozen h4 21
  by_cases ec : B + 4 = 8
  · have HE1 : Hid (r.data x = ({ r.began with bits := 0 }, tellOut o 4)) := by rw [Hid, HE.out, if_pos ec]
    have ed : (((B : Int) + 4) == 8) = true := beq_iff_eq.2 (by omega)
    clear ec HE
    go_wp2
    go_ret
    rw [HE1.out]
    exact ⟨rfl, Blk.set h4 21 _, o4.set 21 _⟩
  · have HE1 : Hid (r.data x = ({ r.began with bits := B + 4 }, tellOut o 4)) := by rw [Hid, HE.out, if_neg ec]
    have ed : (((B : Int) + 4) == 8) = false := beq_eq_false_iff_ne.2 (by omega)
    clear ec HE
    go_wp2
    go_ret
    rw [HE1.out]
    exact ⟨rfl, h4, o4⟩

end Go.Proofs.YtlemmabgbaleiaaGreat
