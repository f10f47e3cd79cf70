/-
  The power is lost; the erases that were begun are told: each by one contract. Conditions: the chip lies in memory as told and is one that may be.
-/
import Derived.Test.YthhchfldgkgfpaaCalls2
namespace Go.Proofs.Ythhchfldgkgfpaa
open Go.RowKit Plain
set_option linter.unusedVariables false

def wipeL (s : St) : List Int := [s.wipes 0, s.wipes 1, s.wipes 2, s.wipes 3, s.wipes 4, s.wipes 5, s.wipes 6, s.wipes 7]
theorem wipes_any (b : Nat) (s : St) (ds : Value) (w : World) (h : At w b s ds) :
    Calls Try.prog 23 #[.pointer (some ⟨b, 0, none⟩)] w fun e w' => ∃ a c, e = .returned (.slice a 8 c) ∧ Owns w.heap.size w' (.slice a 8 c) (wipeL s) ∧ Below w.heap.size w w' := by
  have hr : Reads w (.slice (some ⟨b, 3, none⟩) 8 8) (wipeL s) := ⟨_, 8, rfl, fun _ => ⟨b, 3, rfl, fun j hj => by
    have hj8 : j < 8 := hj
    rw [h.wipe j hj8]
    rcases (by omega : j = 0 ∨ j = 1 ∨ j = 2 ∨ j = 3 ∨ j = 4 ∨ j = 5 ∨ j = 6 ∨ j = 7) with rfl | rfl | rfl | rfl | rfl | rfl | rfl | rfl <;> rfl⟩⟩
  have HC : Hid (Calls Try.prog 30 #[.slice (some ⟨b, 3, none⟩) 8 8] w fun e w' => ∃ a c, e = .returned (.slice a 8 c) ∧ Owns w.heap.size w' (.slice a 8 c) (wipeL s) ∧ 8 ≤ c ∧ Below w.heap.size w w') := clone_any _ (wipeL s) w hr (by show 8 * 8 ≤ _; omega)
  clear hr
  go_enter Try.func23, Try.ntmps23
  go_wp2_with (go_at_call 30; refine HC.out.mono ?_; rintro e w1 ⟨a, c, rfl, ho, hc, b1⟩)
  go_ret
  exact ⟨a, c, rfl, ho, b1⟩

/-- What goes with the power, as it is without. -/
abbrev zeroPow : Array Value := #[.bool false, .bool false, .bool false, .bool false, .slice none 0 0, .int .i64 0, .bool false, .int .i64 0, .string ⟨#[]⟩, .int .i64 0, .int .i64 0, .bool false, .int .i64 0, .int .i64 0, .bool false, .int .i64 0, .int .i64 0, .int .i64 0, .int .i64 0, .int .i64 0, .int .i64 0, .int .u8 0, .int .u8 0, .int .u8 0, .int .u8 0, .int .u8 0, .int .u8 0, .int .u8 0, .int .u8 0, .int .u8 0, .int .u8 0, .int .u8 0, .int .u8 0, .int .u8 0, .int .u8 0, .int .u8 0, .int .u8 0, .int .u8 0, .int .u8 0, .int .u8 0, .int .u8 0, .int .u8 0, .int .u8 0, .int .u8 0, .int .u8 0, .int .u8 0, .int .u8 0, .int .u8 0, .int .u8 0, .int .u8 0, .int .u8 0, .int .u8 0, .int .u8 0, .int .i64 0]
theorem zero77 : zeroPow = (powCells (newSt ⟨#[]⟩) (.slice none 0 0)).toArray := rfl
theorem pow_ones : zeroPow.all (·.oneCell') = true := by
  rw [zero77]
  refine all_oneCell_toArray fun v hv => ?_
  have hk := cmd_ones noCmd
  rw [Array.all_eq_true_iff_forall_mem] at hk
  simp only [powCells, List.mem_append, List.mem_cons, List.not_mem_nil, or_false] at hv
  rcases hv with (rfl | rfl | rfl | rfl | rfl | rfl | rfl | rfl | rfl) | hv
  all_goals first | rfl | (have hv2 : v ∈ cmdCells noCmd := hv; exact hk v (by simpa using hv2))
theorem info77 : (Try.prog.info? 75).map (·.size) = some zeroPow.size := by kernel_rfl
theorem loss_cells (s t : St) (ds : Value) (hA : t.A = s.A) (hp : t.prot = s.prot) (hq : t.quad = s.quad) (hw : t.wipes = s.wipes) (hm : t.made = s.made) (hz : powCells t (.slice none 0 0) = zeroPow.toList) :
    (chipCells s ds).take 15 ++ zeroPow.toList ++ (chipCells s ds).drop (15 + zeroPow.toList.length) = chipCells t (.slice none 0 0) := by
  rw [List.drop_of_length_le (by rw [chip_length]; exact Nat.le_refl 69), List.append_nil, ← hz]
  show _ = [Value.string t.A, .bool t.prot, .bool t.quad, .int .i64 (t.wipes 0), .int .i64 (t.wipes 1), .int .i64 (t.wipes 2), .int .i64 (t.wipes 3), .int .i64 (t.wipes 4), .int .i64 (t.wipes 5), .int .i64 (t.wipes 6), .int .i64 (t.wipes 7),
   .int .u32 (oneIf t.made), .int .i32 0, .int .u32 0, .string (likeT t.made)] ++ powCells t (.slice none 0 0)
  rw [hA, hp, hq, hw, hm]
  rfl
/-- The store of what goes with the power. -/
theorem At.lost {w : World} {b : Nat} {s t : St} {ds : Value} (h : At w b s ds) (hA : t.A = s.A) (hp : t.prot = s.prot) (hq : t.quad = s.quad) (hw : t.wipes = s.wipes) (hm : t.made = s.made) (hz : powCells t (.slice none 0 0) = zeroPow.toList) :
    At (w.setCells b 15 zeroPow.toList) b t (.slice none 0 0) := by
  have := Blk.sets h 15 zeroPow.toList (by rw [chip_length]; exact Nat.le_refl 69)
  rw [loss_cells s t ds hA hp hq hw hm hz] at this
  exact this

set_option maxRecDepth 100000 in
set_option maxHeartbeats 1600000 in
theorem loss_any (n b : Nat) (s : St) (ds : Value) (m : ByteArray) (w : World) (h : At w b s ds) (hs : s.Ok n) (hm : m.size ≤ maxLen) :
    Calls Try.prog 25 #[.pointer (some ⟨b, 0, none⟩), .string m] w fun e w' => e = .returned (.int .i64 0) ∧ At w' b (s.loss m) (.slice none 0 0) ∧ Only b w w' := by
  have c0 : w.cell? ⟨b, 0, none⟩ = some (.string s.A) := Blk.cell h 0 rfl
  have c20 : w.cell? ⟨b, 20, none⟩ = some (.int .i64 (s.left : Int)) := Blk.cell h 20 rfl
  have c21 : w.cell? ⟨b, 21, none⟩ = some (.bool s.erases) := Blk.cell h 21 rfl
  have c22 : w.cell? ⟨b, 22, none⟩ = some (.int .i64 (s.wat : Int)) := Blk.cell h 22 rfl
  have c23 : w.cell? ⟨b, 23, none⟩ = some (.string s.wdata) := Blk.cell h 23 rfl
  have HI : Hid ((Try.prog.info? 75).map (·.size) = some zeroPow.size) := info77
  have HO : Hid (zeroPow.all (·.oneCell') = true) := pow_ones
  have HT : Hid (∀ (u : World) (t : St) (ds : Value), At u b t ds → u.there b 15 zeroPow.size) := fun u t ds hu => Blk.there hu 15 54 (by rw [chip_length]; exact Nat.le_refl 69)
  cases el : decide (0 < s.left) with
  | false =>
    have HA : Hid ((s.loss m).A = s.A) := by show (if 0 < s.left then _ else _) = _; rw [if_neg (of_decide_eq_false el)]
    go_enter Try.func25, Try.ntmps25
    go_wp2_with (first | (go_at_call 39; refine (goes_any _ _ _ _ _).mono ?_; rintro e w1 ⟨rfl, b1⟩; rw [el]; (have h1 : At w1 b s ds := Blk.below h b1)) | (refine wpList_store_mid rfl 75 _ _ rfl b 15 zeroPow rfl rfl (HT.out _ _ _ h1) HI.out HO.out ?_; generalize hW : w1.setCells b 15 zeroPow.toList = W2))
    go_ret
    rw [← hW]
    exact ⟨rfl, h1.lost HA.out rfl rfl rfl rfl rfl, (Only.of_below b1).sets 15 _⟩
  | true =>
    have HA : Hid ((s.loss m).A = s.on m) := by show (if 0 < s.left then _ else _) = _; rw [if_pos (of_decide_eq_true el)]
    have Hon : Hid (∀ u : World, Calls Try.prog 40 #[.agg #[.int .i64 (s.left : Int), .bool s.erases, .int .i64 (s.wat : Int), .string s.wdata], .string s.A, .string m] u fun e w' => ∃ R, e = .returned (.string R) ∧ Hid (R = s.on m) ∧ Below u.heap.size u w') := fun u => on_any s m u hs.A hs.wat hs.wdata hm
    go_enter Try.func25, Try.ntmps25
    go_wp2_with (first | (go_at_call 39; refine (goes_any _ _ _ _ _).mono ?_; rintro e w1 ⟨rfl, b1⟩; rw [el]; (have h1 : At w1 b s ds := Blk.below h b1)))
    have d0 : w1.cell? ⟨b, 0, none⟩ = some (.string s.A) := Blk.cell h1 0 rfl
    have d20 : w1.cell? ⟨b, 20, none⟩ = some (.int .i64 (s.left : Int)) := Blk.cell h1 20 rfl
    have d21 : w1.cell? ⟨b, 21, none⟩ = some (.bool s.erases) := Blk.cell h1 21 rfl
    have d22 : w1.cell? ⟨b, 22, none⟩ = some (.int .i64 (s.wat : Int)) := Blk.cell h1 22 rfl
    have d23 : w1.cell? ⟨b, 23, none⟩ = some (.string s.wdata) := Blk.cell h1 23 rfl
    go_region_with (go_at_call 40; refine (Hon.out _).mono ?_; rintro e w3 ⟨R, rfl, HR, b3⟩; (have h3 : At w3 b s ds := Blk.below (Blk.drew h1) b3); (have q0 : w3.cell? ⟨b, 0, none⟩ = some (.string s.A) := Blk.cell h3 0 rfl); (have z0 := Blk.frozen h3 0))
    all_goals (
      have h4 : At (w3.setCell ⟨b, 0, none⟩ (.string R)) b { s with A := R } ds := Blk.set h3 0 _
      have o4 : Only b w (w3.setCell ⟨b, 0, none⟩ (.string R)) := ((Only.of_below b1).drew.below b3).set 0 _
      generalize (w3.setCell ⟨b, 0, none⟩ (.string R)) = W4 at h4 o4 ⊢
      clear d0 d20 d21 d22 d23 q0 z0 h3 b3 h1 b1
      go_wp2_with (refine wpList_store_mid rfl 75 _ _ rfl b 15 zeroPow rfl rfl (HT.out _ _ _ h4) HI.out HO.out ?_; generalize hW : W4.setCells b 15 zeroPow.toList = W2)
      go_ret
      rw [← hW]
      exact ⟨rfl, h4.lost (HA.out.trans HR.out.symm) rfl rfl rfl rfl rfl, o4.sets 15 _⟩)
end Go.Proofs.Ythhchfldgkgfpaa
