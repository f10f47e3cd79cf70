/-
  The calls of a chip, each by one contract: New, Select, Deselect, Next, Loss, Cells, Wipes. Conditions: the chip lies in memory as told and is one that may be.
-/
import Derived.Test.YtjhjghakfedeeaaGreatObey
import Derived.Test.YtjhjghakfedeeaaGreatWhole
namespace Go.Proofs.YtjhjghakfedeeaaGreat
open Go.RowKit Plain
set_option linter.unusedVariables false

set_option maxRecDepth 100000 in
set_option maxHeartbeats 1600000 in
theorem select_any (n b : Nat) (s : St) (ds : Value) (w : World) (h : At w b s ds) (hs : s.Ok n) (hl : s.sel = false) :
    Calls Tryz.prog 57 #[.pointer (some ⟨b, 0, none⟩)] w fun e w' => e = .returned (.int .i64 0) ∧ At w' b s.select ds ∧ Only b w w' := by
  have c15 : w.cell? ⟨b, 15, none⟩ = some (.bool false) := by rw [← hl]; exact Blk.cell h 15 rfl
  have c18 : w.cell? ⟨b, 18, none⟩ = some (.bool s.goes) := Blk.cell h 18 rfl
  have f15 := Blk.frozen h 15
  have h1 : At (w.setCell ⟨b, 15, none⟩ (.bool true)) b { s with sel := true } ds := Blk.set h 15 _
  have o1 : Only b w (w.setCell ⟨b, 15, none⟩ (.bool true)) := (Only.refl b w).set 15 _
  cases hg : s.goes with
  | false =>
    have HE : Hid (s.select = { s with sel := true }) := by show _ = _; unfold St.select; rw [hg]; rfl
    rw [hg] at c18
    go_enter Tryz.func57, Tryz.ntmps57
    go_wp2
    go_ret
    rw [HE.out]
    exact ⟨rfl, h1, o1⟩
  | true =>
    have HE : Hid (s.select = ({ s with sel := true } : St).take 235) := by show _ = _; unfold St.select; rw [hg]; rfl
    rw [hg] at c18
    have Htk : Hid (∀ u : World, At u b { s with sel := true } ds → Calls Tryz.prog 94 #[.pointer (some ⟨b, 0, none⟩), .int .i64 235] u fun e w' => e = .returned (.tuple #[]) ∧ At w' b (({ s with sel := true } : St).take 235) ds ∧ Only b u w') := fun u hu => take_any b { s with sel := true } ds 235 u hu hs.k.op hs.k.part
    go_enter Tryz.func57, Tryz.ntmps57
    go_wp2_with (go_at_call 94; refine (Htk.out _ h1).mono ?_; rintro e w2 ⟨rfl, h2, o2⟩)
    go_ret
    rw [HE.out]
    exact ⟨rfl, h2, o1.trans o2⟩
theorem select_no (b : Nat) (s : St) (ds : Value) (w : World) (h : At w b s ds) (hl : s.sel = true) :
    Calls Tryz.prog 57 #[.pointer (some ⟨b, 0, none⟩)] w fun e w' => e = .returned (.int .i64 600) ∧ w = w' := by
  have c15 : w.cell? ⟨b, 15, none⟩ = some (.bool true) := by rw [← hl]; exact Blk.cell h 15 rfl
  go_enter Tryz.func57, Tryz.ntmps57
  go_wp2
  go_ret
  exact ⟨rfl, rfl⟩
theorem select_nil (w : World) : Calls Tryz.prog 57 #[.pointer none] w fun e w' => e = .returned (.int .i64 1) ∧ w = w' := by
  go_enter Tryz.func57, Tryz.ntmps57
  go_wp2
  go_ret
  exact ⟨rfl, rfl⟩
theorem deselect_no (b : Nat) (s : St) (ds : Value) (w : World) (h : At w b s ds) (hl : s.sel = false) :
    Calls Tryz.prog 61 #[.pointer (some ⟨b, 0, none⟩)] w fun e w' => e = .returned (.int .i64 600) ∧ w = w' := by
  have c15 : w.cell? ⟨b, 15, none⟩ = some (.bool false) := by rw [← hl]; exact Blk.cell h 15 rfl
  go_enter Tryz.func61, Tryz.ntmps61
  go_wp2
  go_ret
  exact ⟨rfl, rfl⟩
theorem clock_no (v : Value) (x : Int) (w : World) (hv : ∃ b, v = .pointer (some b)) (hx : x < 0 ∨ 16 ≤ x) :
    Calls Tryz.prog 58 #[v, .int .i64 x] w fun e w' => e = .returned (.tuple #[.int .i64 0, .int .i64 600]) ∧ w = w' := by
  obtain ⟨b, rfl⟩ := hv
  rcases hx with hx | hx
  · have t1 : decide (x < 0) = true := decide_eq_true hx
    go_enter Tryz.func58, Tryz.ntmps58
    go_wp2
    go_ret2
    exact ⟨rfl, rfl⟩
  · have t1 : decide (x < 0) = false := decide_eq_false (by omega)
    go_enter Tryz.func58, Tryz.ntmps58
    go_wp2
    go_ret2
    exact ⟨rfl, rfl⟩
theorem cells_any (b : Nat) (s : St) (ds : Value) (w : World) (h : At w b s ds) :
    Calls Tryz.prog 27 #[.pointer (some ⟨b, 0, none⟩)] w fun e w' => e = .returned (.string s.A) ∧ w = w' := by
  have c0 : w.cell? ⟨b, 0, none⟩ = some (.string s.A) := Blk.cell h 0 rfl
  go_enter Tryz.func27, Tryz.ntmps27
  go_wp2
  go_ret
  exact ⟨rfl, rfl⟩
set_option maxRecDepth 100000 in
set_option maxHeartbeats 1600000 in
theorem new_any (a : ByteArray) (w : World) (ha : a.size = 4096) :
    Calls Tryz.prog 52 #[.string a] w fun e w' => ∃ b, e = .returned (.tuple #[.pointer (some ⟨b, 0, none⟩), .int .i64 0]) ∧ w.heap.size ≤ b ∧ At w' b (newSt a) (.slice none 0 0) ∧ Below w.heap.size w w' := by
  have h1 : mayB a = true := by simp [mayB, ha]
  go_enter Tryz.func52, Tryz.ntmps52
  go_wp2_with (go_at_call 89; refine (may_any _ _).mono ?_; rintro e w' ⟨rfl, rfl⟩)
  go_ret2
  refine ⟨w.heap.size, rfl, Nat.le_refl _, Blk.new _ _ _ _ ?_, below_new _ _⟩
  rfl
theorem new_no (a : ByteArray) (w : World) (ha : a.size ≠ 4096) :
    Calls Tryz.prog 52 #[.string a] w fun e w' => e = .returned (.tuple #[.pointer none, .int .i64 600]) ∧ w = w' := by
  have h1 : mayB a = false := by simp [mayB, ha]
  go_enter Tryz.func52, Tryz.ntmps52
  go_wp2_with (go_at_call 89; refine (may_any _ _).mono ?_; rintro e w' ⟨rfl, rfl⟩)
  go_ret2
  exact ⟨rfl, rfl⟩

/-- The cells of no command. -/
abbrev zeroCmd : Array Value := #[.int .i64 0, .int .i64 0, .bool false, .int .i64 0, .int .i64 0, .bool false, .int .i64 0, .int .i64 0, .int .i64 0, .int .i64 0, .int .i64 0, .int .i64 0, .int .u8 0, .int .u8 0, .int .u8 0, .int .u8 0, .int .u8 0, .int .u8 0, .int .u8 0, .int .u8 0, .int .u8 0, .int .u8 0, .int .u8 0, .int .u8 0, .int .u8 0, .int .u8 0, .int .u8 0, .int .u8 0, .int .u8 0, .int .u8 0, .int .u8 0, .int .u8 0, .int .u8 0, .int .u8 0, .int .u8 0, .int .u8 0, .int .u8 0, .int .u8 0, .int .u8 0, .int .u8 0, .int .u8 0, .int .u8 0, .int .u8 0, .int .u8 0, .int .i64 0]
theorem zero75 : zeroCmd = (cmdCells noCmd).toArray := rfl
theorem cmd_ones (k : Cmd) : (cmdCells k).toArray.all (·.oneCell') = true := all_oneCell_toArray fun v hv => by
  simp only [cmdCells, List.mem_append, List.mem_cons, dataCells, List.mem_map, List.not_mem_nil, or_false] at hv
  rcases hv with (rfl | rfl | rfl | rfl | rfl | rfl | rfl | rfl | rfl | rfl | rfl | rfl) | ⟨i, _, rfl⟩ | rfl <;> rfl
theorem chip_cmd (s : St) (ds : Value) (k : Cmd) : (chipCells s ds).take 24 ++ cmdCells k ++ (chipCells s ds).drop (24 + (cmdCells k).length) = chipCells (s.setK k) ds := by
  have e1 : (chipCells s ds).drop (24 + (cmdCells k).length) = [] := List.drop_of_length_le (by
    rw [cmd_length]
    show ((chipCells s ds).take 24 ++ cmdCells s.k).length ≤ _
    rw [List.length_append, cmd_length]
    exact Nat.le_refl 69)
  rw [e1, List.append_nil]
  rfl
theorem chip_length (s : St) (ds : Value) : (chipCells s ds).length = 69 := by
  show ((chipCells s ds).take 24 ++ cmdCells s.k).length = _
  rw [List.length_append, cmd_length]
  rfl
theorem info75 (k : Cmd) : (Tryz.prog.info? 126).map (·.size) = some (cmdCells k).length := by rw [cmd_length]; kernel_rfl
theorem info75' (k : Cmd) : (Tryz.prog.info? 126).map (·.size) = some (cmdCells k).toArray.size := by rw [List.size_toArray, cmd_length]; kernel_rfl

theorem noCmd_ok (n : Nat) : noCmd.Ok n :=
  ⟨noOp_ok, Nat.zero_le 5, Nat.zero_le _, Nat.zero_le _, by decide, by decide, by decide, by decide, fun _ => by decide, fun _ => by decide, fun h => absurd h (by decide)⟩
theorem below_sets {B : Nat} {a w : World} (h : Below B a w) (c o : Nat) (vs : List Value) (hc : B ≤ c) : Below B a (w.setCells c o vs) := by
  induction vs generalizing w o with
  | nil => exact h
  | cons v r ih => exact ih (h.setCell (p := ⟨c, o, none⟩) hc v) (o + 1)

set_option maxRecDepth 100000 in
set_option maxHeartbeats 1600000 in
theorem deselect_any (n b : Nat) (s : St) (ds : Value) (w : World) (h : At w b s ds) (hd : Durs w b ds s.durs) (hs : s.Ok n) (hl : s.sel = true) (hn : n < 4611686018427387903) :
    Calls Tryz.prog 61 #[.pointer (some ⟨b, 0, none⟩)] w fun e w' => e = .returned (.int .i64 0) ∧ ∃ ds', At w' b s.deselect ds' ∧ Durs w' b ds' s.deselect.durs ∧ Only b w w' ∧ ds'.ownBlock = ds.ownBlock := by
  have c15 : w.cell? ⟨b, 15, none⟩ = some (.bool true) := by rw [← hl]; exact Blk.cell h 15 rfl
  have hne : w.heap.size ≠ b := by have := Blk.lt h; omega
  have Hr : Hid (w.rangeAt b 24 (cmdCells s.k)) := cmd_at h
  have Hi := info75 s.k
  have Hi' := info75' s.k
  have HO := cmd_ones s.k
  have g0 : Blk (w.alloc (.cells zeroCmd 126)) w.heap.size 126 (cmdCells noCmd) := Blk.new _ _ _ _ zero75
  have Ht0 : Hid ((w.alloc (.cells zeroCmd 126)).there w.heap.size 0 (cmdCells s.k).toArray.size) := by
    have e45 : (cmdCells s.k).toArray.size = 45 := by simp [cmd_length]
    rw [e45]; exact Blk.there g0 0 45 (by rw [cmd_length]; exact Nat.le_refl _)
  have HI : Hid ((Tryz.prog.info? 126).map (·.size) = some (cmdCells s.k).length) := Hi
  have HI' : Hid ((Tryz.prog.info? 126).map (·.size) = some (cmdCells s.k).toArray.size) := Hi'
  have HO' : Hid ((cmdCells s.k).toArray.all (·.oneCell') = true) := HO
  clear Hi Hi' HO
  have HF : Hid (∀ W1, (w.alloc (.cells zeroCmd 126)).setCells w.heap.size 0 (cmdCells s.k).toArray.toList = W1 → At W1 b s ds ∧ Blk W1 w.heap.size 126 (cmdCells s.k) ∧ Below w.heap.size w W1) := by
    intro W1 hW
    have hb : Below w.heap.size w W1 := by rw [← hW]; exact below_sets (below_new _ _) _ _ _ (Nat.le_refl _)
    refine ⟨Blk.below h hb, ?_, hb⟩
    have := Blk.sets g0 0 (cmdCells s.k).toArray.toList (by simp [cmd_length])
    rw [hW] at this
    rw [List.take_zero, List.nil_append, List.drop_of_length_le (by simp [cmd_length]), List.append_nil] at this
    simpa using this
  have HIz : Hid ((Tryz.prog.info? 126).map (·.size) = some zeroCmd.size) := by show _ = _; kernel_rfl
  have HOz : Hid (zeroCmd.all (·.oneCell') = true) := by show zeroCmd.all _ = true; rw [zero75]; exact cmd_ones noCmd
  have HT2 : Hid (∀ W1, At W1 b s ds → (W1.setCell ⟨b, 15, none⟩ (.bool false)).there b 24 zeroCmd.size) := fun W1 h1 => Blk.there (Blk.set h1 15 _) 24 45 (by rw [List.length_set, chip_length]; exact Nat.le_refl _)
  have HF2 : Hid (∀ W1 W2, At W1 b s ds → Blk W1 w.heap.size 126 (cmdCells s.k) → (W1.setCell ⟨b, 15, none⟩ (.bool false)).setCells b 24 zeroCmd.toList = W2 → At W2 b { s with sel := false, k := noCmd } ds ∧ Blk W2 w.heap.size 126 (cmdCells s.k) ∧ Only b W1 W2) := by
    intro W1 W2 h1 hg hW
    have o2 : Only b W1 W2 := by rw [← hW]; exact ((Only.refl b W1).set 15 _).sets 24 _
    refine ⟨?_, o2.blk hg hne, o2⟩
    have h2 : At (W1.setCell ⟨b, 15, none⟩ (.bool false)) b { s with sel := false } ds := Blk.set h1 15 _
    have h3 := Blk.sets h2 24 (cmdCells noCmd) (by rw [chip_length, cmd_length]; exact Nat.le_refl _)
    rw [chip_cmd] at h3
    rw [show zeroCmd.toList = cmdCells noCmd from rfl] at hW
    rw [hW] at h3
    exact h3
  have hmo : ((s.k.mode : Int) == 160) = decide (s.k.mode = 160) := by
    by_cases e : s.k.mode = 160
    · rw [decide_eq_true e]; exact beq_iff_eq.2 (by omega)
    · rw [decide_eq_false e]; exact beq_eq_false_iff_ne.2 (by omega)
  have Hmo : Hid (((s.k.mode : Int) == 160) = decide (s.k.mode = 160)) := hmo
  clear g0 hmo
  go_enter Tryz.func61, Tryz.ntmps61
  go_wp2_with (first | (refine wpList_load_mid rfl 126 _ rfl b 24 rfl (cmdCells s.k) _ Hr.out Tryz.underlying126 rfl HI.out ?_) | (refine wpList_store_mid rfl 126 _ _ rfl w.heap.size 0 (cmdCells s.k).toArray rfl rfl Ht0.out HI'.out HO'.out ?_; generalize hW : (w.alloc (.cells zeroCmd 126)).setCells w.heap.size 0 (cmdCells s.k).toArray.toList = W1; obtain ⟨hA1, G1, B1⟩ := HF.out W1 hW; clear hW; (have c15' : W1.cell? ⟨b, 15, none⟩ = some (.bool true) := (by rw [← hl]; exact Blk.cell hA1 15 rfl)); (have f15' := Blk.frozen hA1 15)) | (refine wpList_store_mid rfl 126 _ _ rfl b 24 zeroCmd rfl rfl (HT2.out W1 hA1) HIz.out HOz.out ?_; generalize hW2 : (W1.setCell ⟨b, 15, none⟩ (.bool false)).setCells b 24 zeroCmd.toList = W2; obtain ⟨hA2, G2, O2⟩ := HF2.out W1 W2 hA1 G1 hW2; clear hW2; (have cm : W2.cell? ⟨w.heap.size, 10, none⟩ = some (.int .i64 (s.k.mode : Int)) := Blk.cell G2 10 rfl); (have c18 : W2.cell? ⟨b, 18, none⟩ = some (.bool s.goes) := Blk.cell hA2 18 rfl); (have f18 := Blk.frozen hA2 18)))
  have h3 : At (W2.setCell ⟨b, 18, none⟩ (.bool (decide (s.k.mode = 160)))) b s.ended ds := Blk.set hA2 18 _
  have o3 : Only b w (W2.setCell ⟨b, 18, none⟩ (.bool (decide (s.k.mode = 160)))) := ((Only.of_below B1).trans O2).set 18 _
  have g3 : Blk (W2.setCell ⟨b, 18, none⟩ (.bool (decide (s.k.mode = 160)))) w.heap.size 126 (cmdCells s.k) := Blk.other G2 _ _ _ (Ne.symm hne)
  clear c15' f15' cm c18 f18 hA2 G2 O2 hA1 G1 B1 c15
  rw [Hmo.out]
  generalize (W2.setCell ⟨b, 18, none⟩ (.bool (decide (s.k.mode = 160)))) = W3 at h3 o3 g3 ⊢
  have Hr3 : Hid (W3.rangeAt w.heap.size 0 (cmdCells s.k)) := Blk.range g3 0 _ (by rw [List.drop_zero, List.take_length])
  have hd3 : Durs W3 b ds s.durs := hd.only o3
  have hs3 : s.ended.Ok n := ⟨hs.A, hs.durs, hs.left, hs.wat, hs.wdata, noCmd_ok n⟩
  refine (whole_any w.heap.size 0 s.k _ Hr3.out).mono ?_
  rintro e w4 ⟨rfl, rfl⟩
  cases hw : s.k.whole with
  | false =>
    have HE : Hid (s.deselect = s.ended) := by show _ = _; unfold St.deselect; rw [hw]; rfl
    go_wp2
    go_ret
    rw [HE.out]
    exact ⟨rfl, ds, h3, hd3, o3, rfl⟩
  | true =>
    have HE : Hid (s.deselect = s.ended.obey s.k) := by show _ = _; unfold St.deselect; rw [hw]; rfl
    go_wp2_with (first | (refine wpList_load_mid rfl 126 _ rfl w.heap.size 0 rfl (cmdCells s.k) _ Hr3.out Tryz.underlying126 rfl HI.out ?_) | (go_at_call 102; refine (obey_any n b s.ended ds s.k _ h3 hd3 hs3 hs.k hn).mono ?_; rintro e w5 ⟨rfl, ds5, h5, d5, o5, k5⟩))
    go_ret
    rw [HE.out]
    exact ⟨rfl, ds5, h5, d5, o3.trans o5, k5⟩

theorem owns_form {B : Nat} {w : World} {v : Value} {L : List Int} (h : Owns B w v L) : ∃ a c, v = .slice a L.length c ∧ L.length ≤ c := by
  obtain ⟨_, ⟨e1, h2⟩ | ⟨g, cp, cur, e1, _, _, hc, _⟩⟩ := h
  · exact ⟨none, 0, by rw [e1, h2], by omega⟩
  · exact ⟨_, cp, e1, hc⟩
theorem clone_any (v : Value) (L : List Int) (w : World) (hv : Reads w v L) (hL : L.length * 8 ≤ 140737488355328) :
    Calls Tryz.prog 87 #[v] w fun e w' => ∃ a c, e = .returned (.slice a L.length c) ∧ Owns w.heap.size w' (.slice a L.length c) L ∧ L.length ≤ c ∧ Below w.heap.size w w' := by
  obtain ⟨a, cap, rfl, hr⟩ := hv
  cases hL0 : L with
  | nil =>
    cases a with
    | none => exact (Tryz.slices_Clone_int_nil 0 cap w).mono fun e w' ⟨h1, h2⟩ => ⟨none, 0, h1, World.ownsRow_nil _ _ _ _, Nat.le_refl _, by rw [h2]; exact Below.refl _ _⟩
    | some ad =>
      refine (Tryz.slices_Clone_int_zero ad cap w).mono fun e w' ⟨v', h1, h2, _, h4⟩ => ?_
      obtain ⟨a, c, rfl, hc⟩ := owns_form (L := []) h2
      exact ⟨a, c, h1, h2, hc, h4⟩
  | cons x r =>
    rw [← hL0]
    obtain ⟨g, o, rfl, hc⟩ := hr (by rw [hL0]; simp)
    refine (Tryz.slices_Clone_int g o L.length cap L w (Nat.le_refl _) hL hc).mono fun e w' ⟨v', h1, h2, _, h4⟩ => ?_
    rw [List.take_length] at h2
    obtain ⟨a, c, rfl, hc⟩ := owns_form h2
    exact ⟨a, c, h1, h2, hc, h4⟩
theorem owns_durs {B b : Nat} {w : World} {v : Value} {L : List Int} (h : Owns B w v L) (hb : b < B) (hc : ∀ a n c, v = .slice a n c → n ≤ c) : Durs w b v L :=
  ⟨h.reads, fun g o n c e h0 => by
    obtain ⟨_, ⟨e1, h2⟩ | ⟨g', cp, cur, e1, h2, _⟩⟩ := h
    · omega
    · rw [e] at e1; cases e1; omega, hc⟩

/-- Durations that may come. -/
def okL (L : List Int) : Bool := decide (L.length ≤ 16) && L.all fun d => decide (1 ≤ d ∧ d ≤ 400)
theorem okL_iff (L : List Int) : okL L = true ↔ L.length ≤ 16 ∧ ∀ d ∈ L, 1 ≤ d ∧ d ≤ 400 := by
  simp [okL, List.all_eq_true]

end Go.Proofs.YtjhjghakfedeeaaGreat
