/-
  A clock of a command that was taken, ahead of its data: the document's chip, by a contract. Conditions: the chip lies in memory as told.
-/
import Derived.Test.YtlemmabgbaleiaaGreatRCalls
import Derived.Test.YtlemmabgbaleiaaGreatHear
namespace Go.Proofs.YtlemmabgbaleiaaGreat
open Go.RowKit Plain
set_option linter.unusedVariables false

set_option maxRecDepth 100000 in
set_option maxHeartbeats 2000000 in
theorem rpart_1a (n : Nat) (b : Nat) (r : RSt) (wv dv iv : Value) (x : Nat) (w : World) (h : RAt w b r wv dv iv) (hp : r.part = 1) (hl : r.op.addr = 1) (hx : x < 16) (hX : r.x < 16777216) (hb : r.bits < 24) (hc : r.clocks ≤ n) (hn : n < 4611686018427387903) :
    Calls Tryz.prog 105 #[.pointer (some ⟨b, 0, none⟩), .int .i64 (x : Int)] w fun e w' => e = .returned (.int .i64 15) ∧ RAt w' b (r.part1 x).1 wv dv iv ∧ Only b w w' := by
  have c28 : w.cell? ⟨b, 28, none⟩ = some (.int .i64 (r.clocks : Int)) := Blk.cell h 28 rfl
  have f28 := Blk.frozen h 28
  have c23 : w.cell? ⟨b, 23, none⟩ = some (.int .i64 1) := by rw [Blk.cell h 23 rfl, hp]; rfl
  have h1 : RAt (w.setCell ⟨b, 28, none⟩ (.int .i64 ((r.clocks : Int) + 1))) b { r with clocks := r.clocks + 1 } wv dv iv := Blk.set h 28 _
  have o1 : Only b w (w.setCell ⟨b, 28, none⟩ (.int .i64 ((r.clocks : Int) + 1))) := (Only.refl b w).set 28 _
  have HV : Hid (bits .or .i64 ((r.x : Int) * 2) (bits .and .i64 (x : Int) 1) = ((r.x * 2 ^ 1 + x % 2 ^ 1 : Nat) : Int)) := came_val r.x x 1 hX (by decide)
  have HE1 : Hid (r.bits + 1 = 24 → (r.part1 x).1 = RSt.goOn { r with clocks := r.clocks + 1, x := (r.x * 2 ^ 1 + x % 2 ^ 1), bits := r.bits + 1, adr := (r.x * 2 ^ 1 + x % 2 ^ 1) % 4096 } 1) := fun ec => by unfold RSt.part1; rw [hl, if_pos hp, if_pos ec]
  have HE2 : Hid (¬ r.bits + 1 = 24 → (r.part1 x).1 = { r with clocks := r.clocks + 1, x := (r.x * 2 ^ 1 + x % 2 ^ 1), bits := r.bits + 1 }) := fun ec => by unfold RSt.part1; rw [hl, if_pos hp, if_neg ec]
  have HL : Hid (r.op.addr = 1) := hl
  clear h hp hl
  go_enter Tryz.func105, Tryz.ntmps105
  go_upto_region 5 with fail
  generalize w.setCell ⟨b, 28, none⟩ (.int .i64 ((r.clocks : Int) + 1)) = W1 at h1 o1 ⊢
  clear c28 f28 c23
  have c22 : W1.cell? ⟨b, 22, none⟩ = some (.int .i64 (r.x : Int)) := Blk.cell h1 22 rfl
  have c14 : W1.cell? ⟨b, 14, none⟩ = some (.int .i64 1) := by rw [Blk.cell h1 14 rfl]; show some (Value.int .i64 (r.op.addr : Int)) = _; rw [HL.out]; rfl
  have f22 := Blk.frozen h1 22
  have h2 : RAt ((W1.setCell ⟨b, 22, none⟩ (.int .i64 ((r.x * 2 ^ 1 + x % 2 ^ 1 : Nat) : Int))).drew) b { r with clocks := r.clocks + 1, x := (r.x * 2 ^ 1 + x % 2 ^ 1) } wv dv iv := Blk.drew (Blk.set h1 22 _)
  have o2 : Only b w ((W1.setCell ⟨b, 22, none⟩ (.int .i64 ((r.x * 2 ^ 1 + x % 2 ^ 1 : Nat) : Int))).drew) := (o1.set 22 _).drew
  have H1 : Hid (RAt W1 b { r with clocks := r.clocks + 1 } wv dv iv) := h1
  clear h1 o1
  go_region
  rw [HV.out]
  generalize ((W1.setCell ⟨b, 22, none⟩ (.int .i64 ((r.x * 2 ^ 1 + x % 2 ^ 1 : Nat) : Int))).drew) = W2 at h2 o2 ⊢
  clear c22 c14 f22 HV H1
  have c21 : W2.cell? ⟨b, 21, none⟩ = some (.int .i64 (r.bits : Int)) := Blk.cell h2 21 rfl
  have c14 : W2.cell? ⟨b, 14, none⟩ = some (.int .i64 1) := by rw [Blk.cell h2 14 rfl]; show some (Value.int .i64 (r.op.addr : Int)) = _; rw [HL.out]; rfl
  have f21 := Blk.frozen h2 21
  have h3 : RAt ((W2.setCell ⟨b, 21, none⟩ (.int .i64 ((r.bits : Int) + 1))).drew) b { r with clocks := r.clocks + 1, x := (r.x * 2 ^ 1 + x % 2 ^ 1), bits := r.bits + 1 } wv dv iv := Blk.drew (Blk.set h2 21 _)
  have o3 : Only b w ((W2.setCell ⟨b, 21, none⟩ (.int .i64 ((r.bits : Int) + 1))).drew) := (o2.set 21 _).drew
  clear h2 o2
  go_wp2_with fail
  go_region
  generalize ((W2.setCell ⟨b, 21, none⟩ (.int .i64 ((r.bits : Int) + 1))).drew) = W3 at h3 o3 ⊢
  clear c21 c14 f21
  have c21 : W3.cell? ⟨b, 21, none⟩ = some (.int .i64 ((r.bits : Int) + 1)) := Blk.cell h3 21 rfl
  have c22 : W3.cell? ⟨b, 22, none⟩ = some (.int .i64 ((r.x * 2 ^ 1 + x % 2 ^ 1 : Nat) : Int)) := Blk.cell h3 22 rfl
  have H3 : Hid (RAt W3 b { r with clocks := r.clocks + 1, x := (r.x * 2 ^ 1 + x % 2 ^ 1), bits := r.bits + 1 } wv dv iv) := h3
  by_cases ec : r.bits + 1 = 24
  · have ed : (((r.bits : Int) + 1) == 24) = true := beq_iff_eq.2 (by omega)
    have c24 : W3.cell? ⟨b, 24, none⟩ = some (.int .i64 (r.adr : Int)) := Blk.cell h3 24 rfl
    have f24 := Blk.frozen h3 24
    have h4 : RAt (W3.setCell ⟨b, 24, none⟩ (.int .i64 (((r.x * 2 ^ 1 + x % 2 ^ 1) % 4096 : Nat) : Int))) b { r with clocks := r.clocks + 1, x := (r.x * 2 ^ 1 + x % 2 ^ 1), bits := r.bits + 1, adr := (r.x * 2 ^ 1 + x % 2 ^ 1) % 4096 } wv dv iv := Blk.set h3 24 _
    have o4 := o3.set 24 (.int .i64 (((r.x * 2 ^ 1 + x % 2 ^ 1) % 4096 : Nat) : Int))
    obtain ⟨y, hy⟩ : ∃ y : Nat, y = (r.x * 2 ^ 1 + x % 2 ^ 1) := ⟨_, rfl⟩
    rw [← hy] at c22 h4 o4
    have HY : Hid (y = (r.x * 2 ^ 1 + x % 2 ^ 1)) := hy
    have EC : Hid (r.bits + 1 = 24) := ec
    have hy2 : y < 16777216 * 16 + 16 := by rw [hy]; omega
    clear h3 hy ec
    go_wp2_with fail
    refine (rgoOn_any b _ wv dv iv 1 _ h4 (by omega)).mono ?_
    rintro e w5 ⟨rfl, h5, o5⟩
    go_wp2
    go_ret
    refine ⟨rfl, ?_, o4.trans o5⟩
    rw [HE1.out EC.out, ← HY.out]
    exact h5
  · have ed : (((r.bits : Int) + 1) == 24) = false := beq_eq_false_iff_ne.2 (by omega)
    have EC : Hid (¬ r.bits + 1 = 24) := ec
    clear h3 ec
    go_wp2
    go_ret
    refine ⟨rfl, ?_, o3⟩
    rw [HE2.out EC.out]
    exact H3.out

set_option maxRecDepth 100000 in
set_option maxHeartbeats 2000000 in
theorem rpart_1b (n : Nat) (b : Nat) (r : RSt) (wv dv iv : Value) (x : Nat) (w : World) (h : RAt w b r wv dv iv) (hp : r.part = 1) (hl : r.op.addr = 4) (hx : x < 16) (hX : r.x < 16777216) (hb : r.bits < 24) (hc : r.clocks ≤ n) (hn : n < 4611686018427387903) :
    Calls Tryz.prog 105 #[.pointer (some ⟨b, 0, none⟩), .int .i64 (x : Int)] w fun e w' => e = .returned (.int .i64 15) ∧ RAt w' b (r.part1 x).1 wv dv iv ∧ Only b w w' := by
  have c28 : w.cell? ⟨b, 28, none⟩ = some (.int .i64 (r.clocks : Int)) := Blk.cell h 28 rfl
  have f28 := Blk.frozen h 28
  have c23 : w.cell? ⟨b, 23, none⟩ = some (.int .i64 1) := by rw [Blk.cell h 23 rfl, hp]; rfl
  have h1 : RAt (w.setCell ⟨b, 28, none⟩ (.int .i64 ((r.clocks : Int) + 1))) b { r with clocks := r.clocks + 1 } wv dv iv := Blk.set h 28 _
  have o1 : Only b w (w.setCell ⟨b, 28, none⟩ (.int .i64 ((r.clocks : Int) + 1))) := (Only.refl b w).set 28 _
  have HV : Hid (bits .or .i64 ((r.x : Int) * 16) (bits .and .i64 (x : Int) 15) = ((r.x * 2 ^ 4 + x % 2 ^ 4 : Nat) : Int)) := came_val r.x x 4 hX (by decide)
  have HE1 : Hid (r.bits + 4 = 24 → (r.part1 x).1 = RSt.goOn { r with clocks := r.clocks + 1, x := (r.x * 2 ^ 4 + x % 2 ^ 4), bits := r.bits + 4, adr := (r.x * 2 ^ 4 + x % 2 ^ 4) % 4096 } 1) := fun ec => by unfold RSt.part1; rw [hl, if_pos hp, if_pos ec]
  have HE2 : Hid (¬ r.bits + 4 = 24 → (r.part1 x).1 = { r with clocks := r.clocks + 1, x := (r.x * 2 ^ 4 + x % 2 ^ 4), bits := r.bits + 4 }) := fun ec => by unfold RSt.part1; rw [hl, if_pos hp, if_neg ec]
  have HL : Hid (r.op.addr = 4) := hl
  clear h hp hl
  go_enter Tryz.func105, Tryz.ntmps105
  go_upto_region 5 with fail
  generalize w.setCell ⟨b, 28, none⟩ (.int .i64 ((r.clocks : Int) + 1)) = W1 at h1 o1 ⊢
  clear c28 f28 c23
  have c22 : W1.cell? ⟨b, 22, none⟩ = some (.int .i64 (r.x : Int)) := Blk.cell h1 22 rfl
  have c14 : W1.cell? ⟨b, 14, none⟩ = some (.int .i64 4) := by rw [Blk.cell h1 14 rfl]; show some (Value.int .i64 (r.op.addr : Int)) = _; rw [HL.out]; rfl
  have f22 := Blk.frozen h1 22
  have h2 : RAt ((W1.setCell ⟨b, 22, none⟩ (.int .i64 ((r.x * 2 ^ 4 + x % 2 ^ 4 : Nat) : Int))).drew) b { r with clocks := r.clocks + 1, x := (r.x * 2 ^ 4 + x % 2 ^ 4) } wv dv iv := Blk.drew (Blk.set h1 22 _)
  have o2 : Only b w ((W1.setCell ⟨b, 22, none⟩ (.int .i64 ((r.x * 2 ^ 4 + x % 2 ^ 4 : Nat) : Int))).drew) := (o1.set 22 _).drew
  have H1 : Hid (RAt W1 b { r with clocks := r.clocks + 1 } wv dv iv) := h1
  clear h1 o1
  go_region
  rw [HV.out]
  generalize ((W1.setCell ⟨b, 22, none⟩ (.int .i64 ((r.x * 2 ^ 4 + x % 2 ^ 4 : Nat) : Int))).drew) = W2 at h2 o2 ⊢
  clear c22 c14 f22 HV H1
  have c21 : W2.cell? ⟨b, 21, none⟩ = some (.int .i64 (r.bits : Int)) := Blk.cell h2 21 rfl
  have c14 : W2.cell? ⟨b, 14, none⟩ = some (.int .i64 4) := by rw [Blk.cell h2 14 rfl]; show some (Value.int .i64 (r.op.addr : Int)) = _; rw [HL.out]; rfl
  have f21 := Blk.frozen h2 21
  have h3 : RAt ((W2.setCell ⟨b, 21, none⟩ (.int .i64 ((r.bits : Int) + 4))).drew) b { r with clocks := r.clocks + 1, x := (r.x * 2 ^ 4 + x % 2 ^ 4), bits := r.bits + 4 } wv dv iv := Blk.drew (Blk.set h2 21 _)
  have o3 : Only b w ((W2.setCell ⟨b, 21, none⟩ (.int .i64 ((r.bits : Int) + 4))).drew) := (o2.set 21 _).drew
  clear h2 o2
  go_wp2_with fail
  go_region
  generalize ((W2.setCell ⟨b, 21, none⟩ (.int .i64 ((r.bits : Int) + 4))).drew) = W3 at h3 o3 ⊢
  clear c21 c14 f21
  have c21 : W3.cell? ⟨b, 21, none⟩ = some (.int .i64 ((r.bits : Int) + 4)) := Blk.cell h3 21 rfl
  have c22 : W3.cell? ⟨b, 22, none⟩ = some (.int .i64 ((r.x * 2 ^ 4 + x % 2 ^ 4 : Nat) : Int)) := Blk.cell h3 22 rfl
  have H3 : Hid (RAt W3 b { r with clocks := r.clocks + 1, x := (r.x * 2 ^ 4 + x % 2 ^ 4), bits := r.bits + 4 } wv dv iv) := h3
  by_cases ec : r.bits + 4 = 24
  · have ed : (((r.bits : Int) + 4) == 24) = true := beq_iff_eq.2 (by omega)
    have c24 : W3.cell? ⟨b, 24, none⟩ = some (.int .i64 (r.adr : Int)) := Blk.cell h3 24 rfl
    have f24 := Blk.frozen h3 24
    have h4 : RAt (W3.setCell ⟨b, 24, none⟩ (.int .i64 (((r.x * 2 ^ 4 + x % 2 ^ 4) % 4096 : Nat) : Int))) b { r with clocks := r.clocks + 1, x := (r.x * 2 ^ 4 + x % 2 ^ 4), bits := r.bits + 4, adr := (r.x * 2 ^ 4 + x % 2 ^ 4) % 4096 } wv dv iv := Blk.set h3 24 _
    have o4 := o3.set 24 (.int .i64 (((r.x * 2 ^ 4 + x % 2 ^ 4) % 4096 : Nat) : Int))
    obtain ⟨y, hy⟩ : ∃ y : Nat, y = (r.x * 2 ^ 4 + x % 2 ^ 4) := ⟨_, rfl⟩
    rw [← hy] at c22 h4 o4
    have HY : Hid (y = (r.x * 2 ^ 4 + x % 2 ^ 4)) := hy
    have EC : Hid (r.bits + 4 = 24) := ec
    have hy2 : y < 16777216 * 16 + 16 := by rw [hy]; omega
    clear h3 hy ec
    go_wp2_with fail
    refine (rgoOn_any b _ wv dv iv 1 _ h4 (by omega)).mono ?_
    rintro e w5 ⟨rfl, h5, o5⟩
    go_wp2
    go_ret
    refine ⟨rfl, ?_, o4.trans o5⟩
    rw [HE1.out EC.out, ← HY.out]
    exact h5
  · have ed : (((r.bits : Int) + 4) == 24) = false := beq_eq_false_iff_ne.2 (by omega)
    have EC : Hid (¬ r.bits + 4 = 24) := ec
    clear h3 ec
    go_wp2
    go_ret
    refine ⟨rfl, ?_, o3⟩
    rw [HE2.out EC.out]
    exact H3.out

set_option maxRecDepth 100000 in
set_option maxHeartbeats 2000000 in
theorem rpart_2 (n : Nat) (b : Nat) (r : RSt) (wv dv iv : Value) (x : Nat) (w : World) (h : RAt w b r wv dv iv) (hp : r.part = 2) (hl : r.op.addr = 4) (hx : x < 16) (hX : r.x < 16777216) (hb : r.bits < 24) (hc : r.clocks ≤ n) (hn : n < 4611686018427387903) :
    Calls Tryz.prog 105 #[.pointer (some ⟨b, 0, none⟩), .int .i64 (x : Int)] w fun e w' => e = .returned (.int .i64 15) ∧ RAt w' b (r.part1 x).1 wv dv iv ∧ Only b w w' := by
  have c28 : w.cell? ⟨b, 28, none⟩ = some (.int .i64 (r.clocks : Int)) := Blk.cell h 28 rfl
  have f28 := Blk.frozen h 28
  have c23 : w.cell? ⟨b, 23, none⟩ = some (.int .i64 2) := by rw [Blk.cell h 23 rfl, hp]; rfl
  have h1 : RAt (w.setCell ⟨b, 28, none⟩ (.int .i64 ((r.clocks : Int) + 1))) b { r with clocks := r.clocks + 1 } wv dv iv := Blk.set h 28 _
  have o1 : Only b w (w.setCell ⟨b, 28, none⟩ (.int .i64 ((r.clocks : Int) + 1))) := (Only.refl b w).set 28 _
  have HV : Hid (bits .or .i64 ((r.x : Int) * 16) (bits .and .i64 (x : Int) 15) = ((r.x * 2 ^ 4 + x % 2 ^ 4 : Nat) : Int)) := came_val r.x x 4 hX (by decide)
  have HE1 : Hid (r.bits + 4 = 8 → (r.part1 x).1 = RSt.goOn { r with clocks := r.clocks + 1, x := (r.x * 2 ^ 4 + x % 2 ^ 4), bits := r.bits + 4, mode := (r.x * 2 ^ 4 + x % 2 ^ 4), modes := true } 2) := fun ec => by unfold RSt.part1; rw [hl, if_neg (by omega), if_pos hp, if_pos ec]
  have HE2 : Hid (¬ r.bits + 4 = 8 → (r.part1 x).1 = { r with clocks := r.clocks + 1, x := (r.x * 2 ^ 4 + x % 2 ^ 4), bits := r.bits + 4 }) := fun ec => by unfold RSt.part1; rw [hl, if_neg (by omega), if_pos hp, if_neg ec]
  have HL : Hid (r.op.addr = 4) := hl
  clear h hp hl
  go_enter Tryz.func105, Tryz.ntmps105
  go_upto_region 11 with fail
  generalize w.setCell ⟨b, 28, none⟩ (.int .i64 ((r.clocks : Int) + 1)) = W1 at h1 o1 ⊢
  clear c28 f28 c23
  have c22 : W1.cell? ⟨b, 22, none⟩ = some (.int .i64 (r.x : Int)) := Blk.cell h1 22 rfl
  have c14 : W1.cell? ⟨b, 14, none⟩ = some (.int .i64 4) := by rw [Blk.cell h1 14 rfl]; show some (Value.int .i64 (r.op.addr : Int)) = _; rw [HL.out]; rfl
  have f22 := Blk.frozen h1 22
  have h2 : RAt ((W1.setCell ⟨b, 22, none⟩ (.int .i64 ((r.x * 2 ^ 4 + x % 2 ^ 4 : Nat) : Int))).drew) b { r with clocks := r.clocks + 1, x := (r.x * 2 ^ 4 + x % 2 ^ 4) } wv dv iv := Blk.drew (Blk.set h1 22 _)
  have o2 : Only b w ((W1.setCell ⟨b, 22, none⟩ (.int .i64 ((r.x * 2 ^ 4 + x % 2 ^ 4 : Nat) : Int))).drew) := (o1.set 22 _).drew
  have H1 : Hid (RAt W1 b { r with clocks := r.clocks + 1 } wv dv iv) := h1
  clear h1 o1
  go_region
  rw [HV.out]
  generalize ((W1.setCell ⟨b, 22, none⟩ (.int .i64 ((r.x * 2 ^ 4 + x % 2 ^ 4 : Nat) : Int))).drew) = W2 at h2 o2 ⊢
  clear c22 c14 f22 HV H1
  have c21 : W2.cell? ⟨b, 21, none⟩ = some (.int .i64 (r.bits : Int)) := Blk.cell h2 21 rfl
  have c14 : W2.cell? ⟨b, 14, none⟩ = some (.int .i64 4) := by rw [Blk.cell h2 14 rfl]; show some (Value.int .i64 (r.op.addr : Int)) = _; rw [HL.out]; rfl
  have f21 := Blk.frozen h2 21
  have h3 : RAt ((W2.setCell ⟨b, 21, none⟩ (.int .i64 ((r.bits : Int) + 4))).drew) b { r with clocks := r.clocks + 1, x := (r.x * 2 ^ 4 + x % 2 ^ 4), bits := r.bits + 4 } wv dv iv := Blk.drew (Blk.set h2 21 _)
  have o3 : Only b w ((W2.setCell ⟨b, 21, none⟩ (.int .i64 ((r.bits : Int) + 4))).drew) := (o2.set 21 _).drew
  clear h2 o2
  go_wp2_with fail
  go_region
  generalize ((W2.setCell ⟨b, 21, none⟩ (.int .i64 ((r.bits : Int) + 4))).drew) = W3 at h3 o3 ⊢
  clear c21 c14 f21
  have c21 : W3.cell? ⟨b, 21, none⟩ = some (.int .i64 ((r.bits : Int) + 4)) := Blk.cell h3 21 rfl
  have c22 : W3.cell? ⟨b, 22, none⟩ = some (.int .i64 ((r.x * 2 ^ 4 + x % 2 ^ 4 : Nat) : Int)) := Blk.cell h3 22 rfl
  have H3 : Hid (RAt W3 b { r with clocks := r.clocks + 1, x := (r.x * 2 ^ 4 + x % 2 ^ 4), bits := r.bits + 4 } wv dv iv) := h3
  by_cases ec : r.bits + 4 = 8
  · have ed : (((r.bits : Int) + 4) == 8) = true := beq_iff_eq.2 (by omega)
    have c25 : W3.cell? ⟨b, 25, none⟩ = some (.int .i64 (r.mode : Int)) := Blk.cell h3 25 rfl
    have c26 : W3.cell? ⟨b, 26, none⟩ = some (.bool r.modes) := Blk.cell h3 26 rfl
    have f25 := Blk.frozen h3 25
    have f26 := Blk.frozen h3 26
    have h4 : RAt ((W3.setCell ⟨b, 25, none⟩ (.int .i64 ((r.x * 2 ^ 4 + x % 2 ^ 4 : Nat) : Int))).setCell ⟨b, 26, none⟩ (.bool true)) b { r with clocks := r.clocks + 1, x := (r.x * 2 ^ 4 + x % 2 ^ 4), bits := r.bits + 4, mode := (r.x * 2 ^ 4 + x % 2 ^ 4), modes := true } wv dv iv := Blk.set (Blk.set h3 25 _) 26 _
    have o4 := (o3.set 25 (.int .i64 ((r.x * 2 ^ 4 + x % 2 ^ 4 : Nat) : Int))).set 26 (.bool true)
    have EC : Hid (r.bits + 4 = 8) := ec
    clear h3 ec
    go_wp2_with fail
    refine (rgoOn_any b _ wv dv iv 2 _ h4 (by omega)).mono ?_
    rintro e w5 ⟨rfl, h5, o5⟩
    go_wp2
    go_ret
    refine ⟨rfl, ?_, o4.trans o5⟩
    rw [HE1.out EC.out]
    exact h5
  · have ed : (((r.bits : Int) + 4) == 8) = false := beq_eq_false_iff_ne.2 (by omega)
    have EC : Hid (¬ r.bits + 4 = 8) := ec
    clear h3 ec
    go_wp2
    go_ret
    refine ⟨rfl, ?_, o3⟩
    rw [HE2.out EC.out]
    exact H3.out

set_option maxRecDepth 100000 in
set_option maxHeartbeats 2000000 in
theorem rpart_3 (n : Nat) (b : Nat) (r : RSt) (wv dv iv : Value) (x : Nat) (w : World) (h : RAt w b r wv dv iv) (hp : r.part = 3) (hc : r.clocks ≤ n) (hn : n < 4611686018427387903) :
    Calls Tryz.prog 105 #[.pointer (some ⟨b, 0, none⟩), .int .i64 (x : Int)] w fun e w' => e = .returned (.int .i64 15) ∧ RAt w' b (r.part1 x).1 wv dv iv ∧ Only b w w' := by
  have c28 : w.cell? ⟨b, 28, none⟩ = some (.int .i64 (r.clocks : Int)) := Blk.cell h 28 rfl
  have f28 := Blk.frozen h 28
  have c23 : w.cell? ⟨b, 23, none⟩ = some (.int .i64 3) := by rw [Blk.cell h 23 rfl, hp]; rfl
  have h1 : RAt (w.setCell ⟨b, 28, none⟩ (.int .i64 ((r.clocks : Int) + 1))) b { r with clocks := r.clocks + 1 } wv dv iv := Blk.set h 28 _
  have o1 : Only b w (w.setCell ⟨b, 28, none⟩ (.int .i64 ((r.clocks : Int) + 1))) := (Only.refl b w).set 28 _
  have HE1 : Hid (r.clocks + 1 = r.op.dummy → (r.part1 x).1 = RSt.goOn { r with clocks := r.clocks + 1 } 3) := fun ec => by unfold RSt.part1; rw [if_neg (by omega), if_neg (by omega), if_pos hp, if_pos ec]
  have HE2 : Hid (¬ r.clocks + 1 = r.op.dummy → (r.part1 x).1 = { r with clocks := r.clocks + 1 }) := fun ec => by unfold RSt.part1; rw [if_neg (by omega), if_neg (by omega), if_pos hp, if_neg ec]
  clear h hp
  go_enter Tryz.func105, Tryz.ntmps105
  go_upto_region 18 with fail
  generalize w.setCell ⟨b, 28, none⟩ (.int .i64 ((r.clocks : Int) + 1)) = W1 at h1 o1 ⊢
  clear c28 f28 c23
  have c28 : W1.cell? ⟨b, 28, none⟩ = some (.int .i64 ((r.clocks : Int) + 1)) := Blk.cell h1 28 rfl
  have c16 : W1.cell? ⟨b, 16, none⟩ = some (.int .i64 (r.op.dummy : Int)) := Blk.cell h1 16 rfl
  have h2 : RAt W1.drew b { r with clocks := r.clocks + 1 } wv dv iv := Blk.drew h1
  have o2 : Only b w W1.drew := o1.drew
  clear h1 o1
  by_cases ec : r.clocks + 1 = r.op.dummy
  · have ed : (((r.clocks : Int) + 1) == (r.op.dummy : Int)) = true := beq_iff_eq.2 (by omega)
    have EC : Hid (r.clocks + 1 = r.op.dummy) := ec
    clear ec
    go_region
    go_wp2_with fail
    refine (rgoOn_any b _ wv dv iv 3 _ h2 (by omega)).mono ?_
    rintro e w5 ⟨rfl, h5, o5⟩
    go_wp2
    go_ret
    refine ⟨rfl, ?_, o2.trans o5⟩
    rw [HE1.out EC.out]
    exact h5
  · have ed : (((r.clocks : Int) + 1) == (r.op.dummy : Int)) = false := beq_eq_false_iff_ne.2 (by omega)
    have EC : Hid (¬ r.clocks + 1 = r.op.dummy) := ec
    clear ec
    go_region
    go_wp2
    go_ret
    refine ⟨rfl, ?_, o2⟩
    rw [HE2.out EC.out]
    exact h2
end Go.Proofs.YtlemmabgbaleiaaGreat
