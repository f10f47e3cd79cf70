/-
  Select, Status of the document's chip; what is under way is done: each by a contract. Conditions: the chip lies in memory as told.
-/
import Derived.Test.YtlemmabgbaleiaaGreatRCommand
namespace Go.Proofs.YtlemmabgbaleiaaGreat
open Go.RowKit Plain
set_option linter.unusedVariables false

theorem rselect_no (b : Nat) (r : RSt) (wv dv iv : Value) (w : World) (h : RAt w b r wv dv iv) (hs : r.sel = true) :
    Calls Tryz.prog 36 #[.pointer (some ⟨b, 0, none⟩)] w fun e w' => e = .returned (.int .i64 600) ∧ w = w' := by
  have c4 : w.cell? ⟨b, 4, none⟩ = some (.bool true) := by rw [Blk.cell h 4 rfl, hs]
  clear hs h
  go_enter Tryz.func36, Tryz.ntmps36
  go_wp2
  go_ret
  exact ⟨rfl, rfl⟩

set_option maxRecDepth 100000 in
set_option maxHeartbeats 2000000 in
theorem rselect_any (b : Nat) (r : RSt) (wv dv iv : Value) (w : World) (h : RAt w b r wv dv iv) (hs : r.sel = false) :
    Calls Tryz.prog 36 #[.pointer (some ⟨b, 0, none⟩)] w fun e w' => e = .returned (.int .i64 0) ∧ RAt w' b r.select wv dv (.slice none 0 0) ∧ Only b w w' := by
  have c4 : w.cell? ⟨b, 4, none⟩ = some (.bool false) := by rw [Blk.cell h 4 rfl, hs]
  have c13 : w.cell? ⟨b, 13, none⟩ = some (.int .i64 (r.op.byte : Int)) := Blk.cell h 13 rfl
  have c14 : w.cell? ⟨b, 14, none⟩ = some (.int .i64 (r.op.addr : Int)) := Blk.cell h 14 rfl
  have c15 : w.cell? ⟨b, 15, none⟩ = some (.bool r.op.mode) := Blk.cell h 15 rfl
  have c16 : w.cell? ⟨b, 16, none⟩ = some (.int .i64 (r.op.dummy : Int)) := Blk.cell h 16 rfl
  have c17 : w.cell? ⟨b, 17, none⟩ = some (.int .i64 (r.op.data : Int)) := Blk.cell h 17 rfl
  have c18 : w.cell? ⟨b, 18, none⟩ = some (.bool r.op.inn) := Blk.cell h 18 rfl
  have c19 : w.cell? ⟨b, 19, none⟩ = some (.bool r.taken) := Blk.cell h 19 rfl
  have c20 : w.cell? ⟨b, 20, none⟩ = some (.bool r.known) := Blk.cell h 20 rfl
  have c21 : w.cell? ⟨b, 21, none⟩ = some (.int .i64 (r.bits : Int)) := Blk.cell h 21 rfl
  have c22 : w.cell? ⟨b, 22, none⟩ = some (.int .i64 (r.x : Int)) := Blk.cell h 22 rfl
  have c23 : w.cell? ⟨b, 23, none⟩ = some (.int .i64 (r.part : Int)) := Blk.cell h 23 rfl
  have c26 : w.cell? ⟨b, 26, none⟩ = some (.bool r.modes) := Blk.cell h 26 rfl
  have c27 : w.cell? ⟨b, 27, none⟩ = some (iv) := Blk.cell h 27 rfl
  have c28 : w.cell? ⟨b, 28, none⟩ = some (.int .i64 (r.clocks : Int)) := Blk.cell h 28 rfl
  have c30 : w.cell? ⟨b, 30, none⟩ = some (.int .i64 (r.sent : Int)) := Blk.cell h 30 rfl
  have f4 := Blk.frozen h 4
  have f13 := Blk.frozen h 13
  have f14 := Blk.frozen h 14
  have f15 := Blk.frozen h 15
  have f16 := Blk.frozen h 16
  have f17 := Blk.frozen h 17
  have f18 := Blk.frozen h 18
  have f19 := Blk.frozen h 19
  have f20 := Blk.frozen h 20
  have f21 := Blk.frozen h 21
  have f22 := Blk.frozen h 22
  have f23 := Blk.frozen h 23
  have f26 := Blk.frozen h 26
  have f27 := Blk.frozen h 27
  have f28 := Blk.frozen h 28
  have f30 := Blk.frozen h 30
  have h1 : RAt ((((((((((((((((w.setCell ⟨b, 4, none⟩ (.bool true)).setCell ⟨b, 13, none⟩ (.int .i64 0)).setCell ⟨b, 14, none⟩ (.int .i64 0)).setCell ⟨b, 15, none⟩ (.bool false)).setCell ⟨b, 16, none⟩ (.int .i64 0)).setCell ⟨b, 17, none⟩ (.int .i64 0)).setCell ⟨b, 18, none⟩ (.bool false)).setCell ⟨b, 19, none⟩ (.bool false)).setCell ⟨b, 20, none⟩ (.bool false)).setCell ⟨b, 21, none⟩ (.int .i64 0)).setCell ⟨b, 22, none⟩ (.int .i64 0)).setCell ⟨b, 23, none⟩ (.int .i64 0)).setCell ⟨b, 26, none⟩ (.bool false)).setCell ⟨b, 27, none⟩ (.slice none 0 0)).setCell ⟨b, 28, none⟩ (.int .i64 0)).setCell ⟨b, 30, none⟩ (.int .i64 0)) b r.fresh wv dv (.slice none 0 0) := (Blk.set (Blk.set (Blk.set (Blk.set (Blk.set (Blk.set (Blk.set (Blk.set (Blk.set (Blk.set (Blk.set (Blk.set (Blk.set (Blk.set (Blk.set (Blk.set h 4 _) 13 _) 14 _) 15 _) 16 _) 17 _) 18 _) 19 _) 20 _) 21 _) 22 _) 23 _) 26 _) 27 _) 28 _) 30 _)
  have o1 : Only b w ((((((((((((((((w.setCell ⟨b, 4, none⟩ (.bool true)).setCell ⟨b, 13, none⟩ (.int .i64 0)).setCell ⟨b, 14, none⟩ (.int .i64 0)).setCell ⟨b, 15, none⟩ (.bool false)).setCell ⟨b, 16, none⟩ (.int .i64 0)).setCell ⟨b, 17, none⟩ (.int .i64 0)).setCell ⟨b, 18, none⟩ (.bool false)).setCell ⟨b, 19, none⟩ (.bool false)).setCell ⟨b, 20, none⟩ (.bool false)).setCell ⟨b, 21, none⟩ (.int .i64 0)).setCell ⟨b, 22, none⟩ (.int .i64 0)).setCell ⟨b, 23, none⟩ (.int .i64 0)).setCell ⟨b, 26, none⟩ (.bool false)).setCell ⟨b, 27, none⟩ (.slice none 0 0)).setCell ⟨b, 28, none⟩ (.int .i64 0)).setCell ⟨b, 30, none⟩ (.int .i64 0)) := (((((((((((((((((Only.refl b w).set 4 _).set 13 _).set 14 _).set 15 _).set 16 _).set 17 _).set 18 _).set 19 _).set 20 _).set 21 _).set 22 _).set 23 _).set 26 _).set 27 _).set 28 _).set 30 _)
  have c6 : w.cell? ⟨b, 6, none⟩ = some (.bool r.goes) := Blk.cell h 6 rfl
  clear h
  go_enter Tryz.func36, Tryz.ntmps36
  go_upto_region 14 with fail
  generalize ((((((((((((((((w.setCell ⟨b, 4, none⟩ (.bool true)).setCell ⟨b, 13, none⟩ (.int .i64 0)).setCell ⟨b, 14, none⟩ (.int .i64 0)).setCell ⟨b, 15, none⟩ (.bool false)).setCell ⟨b, 16, none⟩ (.int .i64 0)).setCell ⟨b, 17, none⟩ (.int .i64 0)).setCell ⟨b, 18, none⟩ (.bool false)).setCell ⟨b, 19, none⟩ (.bool false)).setCell ⟨b, 20, none⟩ (.bool false)).setCell ⟨b, 21, none⟩ (.int .i64 0)).setCell ⟨b, 22, none⟩ (.int .i64 0)).setCell ⟨b, 23, none⟩ (.int .i64 0)).setCell ⟨b, 26, none⟩ (.bool false)).setCell ⟨b, 27, none⟩ (.slice none 0 0)).setCell ⟨b, 28, none⟩ (.int .i64 0)).setCell ⟨b, 30, none⟩ (.int .i64 0)) = W1 at h1 o1 ⊢
  clear c13 c14 c15 c16 c17 c18 c19 c20 c21 c22 c23 c26 c27 c28 c30 c4 c6 f4 f13 f14 f15 f16 f17 f18 f19 f20 f21 f22 f23 f26 f27 f28 f30
  have c6 : W1.cell? ⟨b, 6, none⟩ = some (.bool r.goes) := Blk.cell h1 6 rfl
  cases eg : r.goes
  · rw [eg] at c6
    have HE : Hid (r.select = r.fresh) := by rw [Hid]; unfold RSt.select; rw [eg]; rfl
    have H1 : Hid (RAt W1 b r.fresh wv dv (.slice none 0 0)) := h1
    clear h1
    go_wp2
    go_ret
    exact ⟨rfl, by rw [HE.out]; exact H1.out, o1⟩
  · rw [eg] at c6
    have HE : Hid (r.select = r.fresh.command 235) := by rw [Hid]; unfold RSt.select; rw [eg]; rfl
    have H1 : Hid (RAt W1 b r.fresh wv dv (.slice none 0 0)) := h1
    clear h1
    go_wp2_with fail
    refine (rcommand_any b _ wv dv _ 235 _ H1.out (by omega)).mono ?_
    rintro e w2 ⟨rfl, h2, o2⟩
    go_wp2
    go_ret
    exact ⟨rfl, by rw [HE.out]; exact h2, o1.trans o2⟩
end Go.Proofs.YtlemmabgbaleiaaGreat
