/-
  What comes to the chip: a part is whole, a clock's bits come in: each by a contract. Conditions: the chip lies in memory as told and is one that may be.
-/
import Derived.Test.YtjhjghakfedeeaaGreatTurn
import Derived.BigRegion
namespace Go.Proofs.YtjhjghakfedeeaaGreat
open Go.RowKit Plain
set_option linter.unusedVariables false

theorem data_get (d : Nat → UInt8) (j : Nat) (hj : j < 32) (L R : List Value) : (L ++ (dataCells d ++ R))[L.length + j]? = some (.int .u8 ((d j).toNat : Int)) := by
  rw [List.getElem?_append_right (by omega), show L.length + j - L.length = j by omega, List.getElem?_append_left (by simp [dataCells]; exact hj)]
  simp [dataCells, hj]
theorem data_set (d : Nat → UInt8) (j : Nat) (hj : j < 32) (x : UInt8) (L R : List Value) : (L ++ (dataCells d ++ R)).set (L.length + j) (.int .u8 (x.toNat : Int)) = L ++ (dataCells (fun i => if i = j then x else d i) ++ R) := by
  rw [List.set_append_right _ _ (by omega), show L.length + j - L.length = j by omega, List.set_append_left _ _ (by simp [dataCells]; exact hj)]
  congr 2
  refine List.ext_getElem? fun i => ?_
  rw [List.getElem?_set]
  by_cases e : j = i
  · subst e
    simp [dataCells, hj]
  · rw [if_neg e]
    simp only [dataCells, List.getElem?_map]
    by_cases hi : i < 32
    · simp [hi, Ne.symm e]
    · simp [hi]
theorem At.data {w : World} {b : Nat} {s : St} {ds : Value} (h : At w b s ds) (j : Nat) (hj : j < 32) : w.cell? ⟨b, 36 + j, none⟩ = some (.int .u8 ((s.k.data j).toNat : Int)) :=
  Blk.cell h (36 + j) (data_get s.k.data j hj ((chipCells s ds).take 36) [.int .i64 (s.k.said : Int)])
theorem At.setData {w : World} {b : Nat} {s : St} {ds : Value} (h : At w b s ds) (j : Nat) (hj : j < 32) (x : UInt8) :
    At (w.setCell ⟨b, 36 + j, none⟩ (.int .u8 (x.toNat : Int))) b (s.setK { s.k with data := fun i => if i = j then x else s.k.data i }) ds := by
  have h1 := Blk.set h (36 + j) (.int .u8 (x.toNat : Int))
  have h2 : (chipCells s ds).set (36 + j) (.int .u8 (x.toNat : Int)) = chipCells (s.setK { s.k with data := fun i => if i = j then x else s.k.data i }) ds := data_set s.k.data j hj x ((chipCells s ds).take 36) [.int .i64 (s.k.said : Int)]
  rw [h2] at h1
  exact h1
theorem byte_of (n : Nat) : (n : Int) % 256 = ((UInt8.ofNat n).toNat : Int) := by simp

set_option maxRecDepth 100000 in
set_option maxHeartbeats 1000000 in
theorem complete_any (b : Nat) (s : St) (ds : Value) (w : World) (h : At w b s ds) (hk : s.k.op.Ok) (hp : s.k.part ≤ 5) (hb : s.k.bits < 4294967296) (hc : s.k.count < 4611686018427387904) :
    Calls Tryz.prog 129 #[.pointer (some ⟨b, 0, none⟩)] w fun e w' => e = .returned (.tuple #[]) ∧ At w' b s.complete ds ∧ Only b w w' := by
  have c30 : w.cell? ⟨b, 30, none⟩ = some (.int .i64 (s.k.part : Int)) := Blk.cell h 30 rfl
  have c31 : w.cell? ⟨b, 31, none⟩ = some (.int .i64 (s.k.clocks : Int)) := Blk.cell h 31 rfl
  have c32 : w.cell? ⟨b, 32, none⟩ = some (.int .i64 (s.k.bits : Int)) := Blk.cell h 32 rfl
  have c33 : w.cell? ⟨b, 33, none⟩ = some (.int .i64 (s.k.adr : Int)) := Blk.cell h 33 rfl
  have c34 : w.cell? ⟨b, 34, none⟩ = some (.int .i64 (s.k.mode : Int)) := Blk.cell h 34 rfl
  have c35 : w.cell? ⟨b, 35, none⟩ = some (.int .i64 (s.k.count : Int)) := Blk.cell h 35 rfl
  have f31 := Blk.frozen h 31
  have f32 := Blk.frozen h 32
  have f33 := Blk.frozen h 33
  have f34 := Blk.frozen h 34
  have f35 := Blk.frozen h 35
  by_cases p0 : s.k.part = 0
  · have e1 : s.complete = s.take s.k.bits := by unfold St.complete; rw [if_pos p0]
    rw [e1]
    rw [p0] at c30
    go_enter Tryz.func129, Tryz.ntmps129
    go_wp2_with (go_at_call 94; refine (take_any b s ds s.k.bits _ h hk hp).mono ?_; rintro e w1 ⟨rfl, h1, o1⟩)
    first | go_end0 | refine bodyPost_ret (results_none rfl _ _ _) rfl ?_
    exact ⟨rfl, h1, o1⟩
  by_cases p1 : s.k.part = 1
  · have e1 : s.complete = s.setK (Cmd.turn { s.k with adr := s.k.bits % 4096 }) := by unfold St.complete; rw [if_neg p0, if_pos p1]
    rw [e1]
    rw [p1] at c30
    go_enter Tryz.func129, Tryz.ntmps129
    go_wp2_with (go_at_call 126; refine (turn_any b (s.setK { s.k with adr := s.k.bits % 4096 }) ds _ (by exact Blk.set h 33 _) hk hp).mono ?_; rintro e w1 ⟨rfl, h1, o1⟩)
    first | go_end0 | refine bodyPost_ret (results_none rfl _ _ _) rfl ?_
    exact ⟨rfl, h1, ((Only.refl b w).set 33 _).trans o1⟩
  by_cases p2 : s.k.part = 2
  · have e1 : s.complete = s.setK (Cmd.turn { s.k with mode := s.k.bits }) := by unfold St.complete; rw [if_neg p0, if_neg p1, if_pos p2]
    rw [e1]
    rw [p2] at c30
    go_enter Tryz.func129, Tryz.ntmps129
    go_wp2_with (go_at_call 126; refine (turn_any b (s.setK { s.k with mode := s.k.bits }) ds _ (by exact Blk.set h 34 _) hk hp).mono ?_; rintro e w1 ⟨rfl, h1, o1⟩)
    first | go_end0 | refine bodyPost_ret (results_none rfl _ _ _) rfl ?_
    exact ⟨rfl, h1, ((Only.refl b w).set 34 _).trans o1⟩
  by_cases p4 : s.k.part = 4
  · rw [p4] at c30
    have hj : s.k.count % 32 < 32 := Nat.mod_lt _ (by decide)
    have cD := h.data _ hj
    have fD := Blk.frozen h (36 + s.k.count % 32)
    have h2 : At ((w.setCell ⟨b, 36 + s.k.count % 32, none⟩ (.int .u8 ((s.k.bits : Int) % 256))).drew) b (s.setK { s.k with data := fun i => if i = s.k.count % 32 then UInt8.ofNat s.k.bits else s.k.data i }) ds := by
      rw [byte_of]; exact Blk.drew (h.setData _ hj _)
    have o2 : Only b w ((w.setCell ⟨b, 36 + s.k.count % 32, none⟩ (.int .u8 ((s.k.bits : Int) % 256))).drew) := ((Only.refl b w).set _ _).drew
    have HE : Hid (s.complete = s.setK { s.k with data := fun j => if j = s.k.count % 32 then UInt8.ofNat s.k.bits else s.k.data j, count := s.k.count + 1, clocks := 0, bits := 0 }) := by show _ = _; unfold St.complete; rw [if_neg p0, if_neg p1, if_neg p2, if_pos p4]
    clear p0 p1 p2 p4
    go_enter Tryz.func129, Tryz.ntmps129
    go_wp2_with fail
    go_region
    generalize ((w.setCell ⟨b, 36 + s.k.count % 32, none⟩ (.int .u8 ((s.k.bits : Int) % 256))).drew) = W2 at h2 o2 ⊢
    clear c30 c31 c32 c33 c34 c35 f31 f32 f33 f34 f35 cD fD
    have d31 : W2.cell? ⟨b, 31, none⟩ = some (.int .i64 (s.k.clocks : Int)) := Blk.cell h2 31 rfl
    have d32 : W2.cell? ⟨b, 32, none⟩ = some (.int .i64 (s.k.bits : Int)) := Blk.cell h2 32 rfl
    have d35 : W2.cell? ⟨b, 35, none⟩ = some (.int .i64 (s.k.count : Int)) := Blk.cell h2 35 rfl
    have g31 := Blk.frozen h2 31
    have g32 := Blk.frozen h2 32
    have g35 := Blk.frozen h2 35
    go_wp2
    first | go_end0 | refine bodyPost_ret (results_none rfl _ _ _) rfl ?_
    rw [HE.out]
    exact ⟨rfl, Blk.set (Blk.set (Blk.set h2 35 _) 31 _) 32 _, ((o2.set 35 _).set 31 _).set 32 _⟩
  · have e1 : s.complete = s.setK s.k.turn := by unfold St.complete; rw [if_neg p0, if_neg p1, if_neg p2, if_neg p4]
    have i0 : ((s.k.part : Int) == 0) = false := beq_eq_false_iff_ne.2 (by omega)
    have i1 : ((s.k.part : Int) == 1) = false := beq_eq_false_iff_ne.2 (by omega)
    have i2 : ((s.k.part : Int) == 2) = false := beq_eq_false_iff_ne.2 (by omega)
    have i4 : ((s.k.part : Int) == 4) = false := beq_eq_false_iff_ne.2 (by omega)
    rw [e1]
    go_enter Tryz.func129, Tryz.ntmps129
    go_wp2_with (go_at_call 126; refine (turn_any b s ds _ h hk hp).mono ?_; rintro e w1 ⟨rfl, h1, o1⟩)
    first | go_end0 | refine bodyPost_ret (results_none rfl _ _ _) rfl ?_
    exact ⟨rfl, h1, o1⟩

theorem over_lanes (l n : Nat) (h : l = 0 ∨ l = 1 ∨ l = 4) : (over l n).1 = 0 ∨ (over l n).1 = 1 ∨ (over l n).1 = 4 := by
  rcases h with rfl | rfl | rfl <;> simp [over]
theorem split_lanes (k : Cmd) (h : k.op.Ok) : k.split.1 = 0 ∨ k.split.1 = 1 ∨ k.split.1 = 4 := by
  unfold Cmd.split splitO
  repeat' split
  all_goals first | exact over_lanes _ _ h.addr | exact over_lanes _ _ h.data | exact Or.inr (Or.inl rfl) | exact Or.inl rfl

theorem came_val (a x l : Nat) (ha : a < 16777216) (hl : l ≤ 4) : bits .or .i64 ((a : Int) * 2 ^ l) (bits .and .i64 (x : Int) (2 ^ l - 1)) = ((a * 2 ^ l + x % 2 ^ l : Nat) : Int) := by
  have h16 : 2 ^ l ≤ 16 := by rcases (by omega : l = 0 ∨ l = 1 ∨ l = 2 ∨ l = 3 ∨ l = 4) with rfl | rfl | rfl | rfl | rfl <;> decide
  have hpos : 0 < 2 ^ l := Nat.two_pow_pos l
  have hm := Nat.mod_lt x hpos
  have hle : a * 2 ^ l ≤ 16777216 * 16 := Nat.mul_le_mul (by omega) h16
  rw [and_mask _ l (by omega)]
  have e1 : (x : Int) % 2 ^ l = ((x % 2 ^ l : Nat) : Int) := by simp
  have e2 : (2 : Int) ^ l = ((2 ^ l : Nat) : Int) := by simp
  rw [e1]
  rw [or_add (a : Int) _ l (by omega) (by rw [e2, ← Int.natCast_mul]; omega) (by omega) (by rw [e2]; omega), e2]
  simp
theorem came_small {n : Nat} (k : Cmd) (x : Nat) (h : k.Ok n) (hx : x < 16) : (k.came x).bits < 4294967296 := by
  have h1 := h.small
  have h2 := split_lanes k h.op
  show k.bits * 2 ^ k.split.1 + x % 2 ^ k.split.1 < _
  rcases h2 with e | e | e <;> rw [e] <;> omega

set_option maxRecDepth 100000 in
set_option maxHeartbeats 1000000 in
theorem hear_any (n : Nat) (b : Nat) (s : St) (ds : Value) (x : Nat) (w : World) (h : At w b s ds) (hk : s.k.Ok n) (hn : n < 4611686018427387903) (hx : x < 16) :
    Calls Tryz.prog 98 #[.pointer (some ⟨b, 0, none⟩), .int .i64 (x : Int)] w fun e w' => e = .returned (.tuple #[]) ∧ At w' b (s.hear x) ds ∧ Only b w w' := by
  have hs := hk.small
  have hl := split_lanes s.k hk.op
  go_enter Tryz.func98, Tryz.ntmps98
  go_wp2_with (go_at_call 128; refine (split_any b 24 s.k _ (cmd_at h) hk.op hk.part).mono ?_; rintro e w1 ⟨rfl, b1⟩; (have h1 : At w1 b s ds := Blk.below h b1); (have c31 : w1.cell? ⟨b, 31, none⟩ = some (.int .i64 (s.k.clocks : Int)) := Blk.cell h1 31 rfl);  (have c32 : w1.cell? ⟨b, 32, none⟩ = some (.int .i64 (s.k.bits : Int)) := Blk.cell h1 32 rfl); (have f31 := Blk.frozen h1 31); (have f32 := Blk.frozen h1 32))
  rcases hl with e | e | e
  · have HV : Hid (bits .or .i64 (s.k.bits : Int) (bits .and .i64 (x : Int) 0) = ((s.k.bits * 2 ^ s.k.split.1 + x % 2 ^ s.k.split.1 : Nat) : Int)) := by show _ = _; rw [e]; have ez := came_val s.k.bits x 0 hs (by decide); simp only [Int.pow_zero, Int.mul_one, Int.sub_self] at ez; exact ez
    rw [e]
    go_region
    rw [HV.out]
    have h2 : At ((w1.setCell ⟨b, 32, none⟩ (.int .i64 ((s.k.bits * 2 ^ s.k.split.1 + x % 2 ^ s.k.split.1 : Nat) : Int))).drew) b (s.setK { s.k with bits := s.k.bits * 2 ^ s.k.split.1 + x % 2 ^ s.k.split.1 }) ds := Blk.drew (Blk.set h1 32 _)
    have o2 : Only b w ((w1.setCell ⟨b, 32, none⟩ (.int .i64 ((s.k.bits * 2 ^ s.k.split.1 + x % 2 ^ s.k.split.1 : Nat) : Int))).drew) := ((Only.of_below b1).set _ _).drew
    generalize ((w1.setCell ⟨b, 32, none⟩ (.int .i64 ((s.k.bits * 2 ^ s.k.split.1 + x % 2 ^ s.k.split.1 : Nat) : Int))).drew) = W2 at h2 o2 ⊢
    clear HV e c31 c32 f31 f32
    have d31 : W2.cell? ⟨b, 31, none⟩ = some (.int .i64 (s.k.clocks : Int)) := Blk.cell h2 31 rfl
    have g31 := Blk.frozen h2 31
    have h3 : At (W2.setCell ⟨b, 31, none⟩ (.int .i64 ((s.k.clocks : Int) + 1))) b (s.setK (s.k.came x)) ds := Blk.set h2 31 _
    have o3 := o2.set 31 (.int .i64 ((s.k.clocks : Int) + 1))
    have hcl : s.k.clocks ≤ n := hk.clocks
    by_cases ec : s.k.clocks + 1 = s.k.split.2
    · have HE : Hid (s.hear x = (s.setK (s.k.came x)).complete) := by show _ = _; unfold St.hear; rw [if_pos ec]
      have ec1 : (((s.k.clocks : Int) + 1) == (s.k.split.2 : Int)) = true := beq_iff_eq.2 (by omega)
      clear ec
      go_wp2_with (go_at_call 129; refine (complete_any b (s.setK (s.k.came x)) ds _ h3 hk.op hk.part (came_small s.k x hk hx) (by have := hk.count; show s.k.count < _; omega)).mono ?_; rintro e w4 ⟨rfl, h4, o4⟩)
      first | go_end0 | refine bodyPost_ret (results_none rfl _ _ _) rfl ?_
      rw [HE.out]
      exact ⟨rfl, h4, o3.trans o4⟩
    · have HE : Hid (s.hear x = s.setK (s.k.came x)) := by show _ = _; unfold St.hear; rw [if_neg ec]
      have ec1 : (((s.k.clocks : Int) + 1) == (s.k.split.2 : Int)) = false := beq_eq_false_iff_ne.2 (by omega)
      clear ec
      go_wp2
      first | go_end0 | refine bodyPost_ret (results_none rfl _ _ _) rfl ?_
      rw [HE.out]
      exact ⟨rfl, h3, o3⟩
  · have HV : Hid (bits .or .i64 ((s.k.bits : Int) * 2) (bits .and .i64 (x : Int) 1) = ((s.k.bits * 2 ^ s.k.split.1 + x % 2 ^ s.k.split.1 : Nat) : Int)) := by show _ = _; rw [e]; exact came_val s.k.bits x 1 hs (by decide)
    rw [e]
    go_region
    rw [HV.out]
    have h2 : At ((w1.setCell ⟨b, 32, none⟩ (.int .i64 ((s.k.bits * 2 ^ s.k.split.1 + x % 2 ^ s.k.split.1 : Nat) : Int))).drew) b (s.setK { s.k with bits := s.k.bits * 2 ^ s.k.split.1 + x % 2 ^ s.k.split.1 }) ds := Blk.drew (Blk.set h1 32 _)
    have o2 : Only b w ((w1.setCell ⟨b, 32, none⟩ (.int .i64 ((s.k.bits * 2 ^ s.k.split.1 + x % 2 ^ s.k.split.1 : Nat) : Int))).drew) := ((Only.of_below b1).set _ _).drew
    generalize ((w1.setCell ⟨b, 32, none⟩ (.int .i64 ((s.k.bits * 2 ^ s.k.split.1 + x % 2 ^ s.k.split.1 : Nat) : Int))).drew) = W2 at h2 o2 ⊢
    clear HV e c31 c32 f31 f32
    have d31 : W2.cell? ⟨b, 31, none⟩ = some (.int .i64 (s.k.clocks : Int)) := Blk.cell h2 31 rfl
    have g31 := Blk.frozen h2 31
    have h3 : At (W2.setCell ⟨b, 31, none⟩ (.int .i64 ((s.k.clocks : Int) + 1))) b (s.setK (s.k.came x)) ds := Blk.set h2 31 _
    have o3 := o2.set 31 (.int .i64 ((s.k.clocks : Int) + 1))
    have hcl : s.k.clocks ≤ n := hk.clocks
    by_cases ec : s.k.clocks + 1 = s.k.split.2
    · have HE : Hid (s.hear x = (s.setK (s.k.came x)).complete) := by show _ = _; unfold St.hear; rw [if_pos ec]
      have ec1 : (((s.k.clocks : Int) + 1) == (s.k.split.2 : Int)) = true := beq_iff_eq.2 (by omega)
      clear ec
      go_wp2_with (go_at_call 129; refine (complete_any b (s.setK (s.k.came x)) ds _ h3 hk.op hk.part (came_small s.k x hk hx) (by have := hk.count; show s.k.count < _; omega)).mono ?_; rintro e w4 ⟨rfl, h4, o4⟩)
      first | go_end0 | refine bodyPost_ret (results_none rfl _ _ _) rfl ?_
      rw [HE.out]
      exact ⟨rfl, h4, o3.trans o4⟩
    · have HE : Hid (s.hear x = s.setK (s.k.came x)) := by show _ = _; unfold St.hear; rw [if_neg ec]
      have ec1 : (((s.k.clocks : Int) + 1) == (s.k.split.2 : Int)) = false := beq_eq_false_iff_ne.2 (by omega)
      clear ec
      go_wp2
      first | go_end0 | refine bodyPost_ret (results_none rfl _ _ _) rfl ?_
      rw [HE.out]
      exact ⟨rfl, h3, o3⟩
  · have HV : Hid (bits .or .i64 ((s.k.bits : Int) * 16) (bits .and .i64 (x : Int) 15) = ((s.k.bits * 2 ^ s.k.split.1 + x % 2 ^ s.k.split.1 : Nat) : Int)) := by show _ = _; rw [e]; exact came_val s.k.bits x 4 hs (by decide)
    rw [e]
    go_region
    rw [HV.out]
    have h2 : At ((w1.setCell ⟨b, 32, none⟩ (.int .i64 ((s.k.bits * 2 ^ s.k.split.1 + x % 2 ^ s.k.split.1 : Nat) : Int))).drew) b (s.setK { s.k with bits := s.k.bits * 2 ^ s.k.split.1 + x % 2 ^ s.k.split.1 }) ds := Blk.drew (Blk.set h1 32 _)
    have o2 : Only b w ((w1.setCell ⟨b, 32, none⟩ (.int .i64 ((s.k.bits * 2 ^ s.k.split.1 + x % 2 ^ s.k.split.1 : Nat) : Int))).drew) := ((Only.of_below b1).set _ _).drew
    generalize ((w1.setCell ⟨b, 32, none⟩ (.int .i64 ((s.k.bits * 2 ^ s.k.split.1 + x % 2 ^ s.k.split.1 : Nat) : Int))).drew) = W2 at h2 o2 ⊢
    clear HV e c31 c32 f31 f32
    have d31 : W2.cell? ⟨b, 31, none⟩ = some (.int .i64 (s.k.clocks : Int)) := Blk.cell h2 31 rfl
    have g31 := Blk.frozen h2 31
    have h3 : At (W2.setCell ⟨b, 31, none⟩ (.int .i64 ((s.k.clocks : Int) + 1))) b (s.setK (s.k.came x)) ds := Blk.set h2 31 _
    have o3 := o2.set 31 (.int .i64 ((s.k.clocks : Int) + 1))
    have hcl : s.k.clocks ≤ n := hk.clocks
    by_cases ec : s.k.clocks + 1 = s.k.split.2
    · have HE : Hid (s.hear x = (s.setK (s.k.came x)).complete) := by show _ = _; unfold St.hear; rw [if_pos ec]
      have ec1 : (((s.k.clocks : Int) + 1) == (s.k.split.2 : Int)) = true := beq_iff_eq.2 (by omega)
      clear ec
      go_wp2_with (go_at_call 129; refine (complete_any b (s.setK (s.k.came x)) ds _ h3 hk.op hk.part (came_small s.k x hk hx) (by have := hk.count; show s.k.count < _; omega)).mono ?_; rintro e w4 ⟨rfl, h4, o4⟩)
      first | go_end0 | refine bodyPost_ret (results_none rfl _ _ _) rfl ?_
      rw [HE.out]
      exact ⟨rfl, h4, o3.trans o4⟩
    · have HE : Hid (s.hear x = s.setK (s.k.came x)) := by show _ = _; unfold St.hear; rw [if_neg ec]
      have ec1 : (((s.k.clocks : Int) + 1) == (s.k.split.2 : Int)) = false := beq_eq_false_iff_ne.2 (by omega)
      clear ec
      go_wp2
      first | go_end0 | refine bodyPost_ret (results_none rfl _ _ _) rfl ?_
      rw [HE.out]
      exact ⟨rfl, h3, o3⟩
end Go.Proofs.YtjhjghakfedeeaaGreat
