/-
  The power goes: the document's chip, by a contract. Conditions: the chip lies in memory as told, and is one that may be.
-/
import Derived.Test.YtlemmabgbaleiaaGreatRDesel
namespace Go.Proofs.YtlemmabgbaleiaaGreat
open Go.RowKit Plain
set_option linter.unusedVariables false

set_option maxRecDepth 100000 in
set_option maxHeartbeats 1000000 in
theorem rnew_at (a : ByteArray) (w : World) (ha : a.size = 4096) :
    Calls Tryz.prog 27 #[.string a] w fun e w' => e = .returned (.tuple #[.pointer (some ⟨w.heap.size + 1, 0, none⟩), .int .i64 0]) ∧ RAt w' (w.heap.size + 1) (newR a) (.slice (some ⟨w.heap.size, 0, none⟩) 8 8) (.slice none 0 0) (.slice none 0 0) ∧ Below w.heap.size w w' := by
  obtain ⟨cs, hmk, Hcs⟩ := make8
  have hm : mayB a = true := by simp [mayB, ha]
  go_enter Tryz.func27, Tryz.ntmps27
  go_wp2_with (go_at_call 50; refine (cellsMay_any _ _).mono ?_; rintro e w' ⟨rfl, rfl⟩; rw [hm])
  go_ret2
  refine ⟨by simp, ?_, below_then (below_new w _) (below_new _ _)⟩
  have hb1 : (w.alloc (.cells cs 3)).heap.size = w.heap.size + 1 := by simp
  have := Blk.new (w.alloc (.cells cs 3)) 81 (rCells (newR a) (.slice (some ⟨w.heap.size, 0, none⟩) 8 8) (.slice none 0 0) (.slice none 0 0)) _ rfl
  rw [hb1] at this
  exact this
theorem info54 : (Tryz.prog.info? 81).map (·.size) = some 31 := by kernel_rfl
theorem r_ones (r : RSt) (g : Nat) : (rCells r (.slice (some ⟨g, 0, none⟩) 8 8) (.slice none 0 0) (.slice none 0 0)).toArray.all (·.oneCell') = true := all_oneCell_toArray fun v hv => by
  simp only [rCells, List.mem_cons, List.not_mem_nil, or_false] at hv
  rcases hv with rfl | rfl | rfl | rfl | rfl | rfl | rfl | rfl | rfl | rfl | rfl | rfl | rfl | rfl | rfl | rfl | rfl | rfl | rfl | rfl | rfl | rfl | rfl | rfl | rfl | rfl | rfl | rfl | rfl | rfl | rfl <;> rfl
theorem Rows3.lost {F : Nat → Prop} {u w : World} {b : Nat} {W D : List Int} {I : List Nat} {wv dv iv : Value} (h : Rows3 F u w b W D I wv dv iv) : Rows3 F u w b W [] [] wv (.slice none 0 0) (.slice none 0 0) := by
  obtain ⟨g, e, hg, ho, hne, -, -⟩ := h.wiped
  have hn : ∀ k, (Value.slice none 0 0).ownBlock = some k → False := fun k hk => by cases hk
  exact ⟨⟨g, e, hg, ho, hne, fun k hk => (hn k hk).elim, fun k hk => (hn k hk).elim⟩, ⟨none, 0, rfl, fun h => absurd h (show ¬ (0 < 0) by decide)⟩, fun a n c e => (by cases e; exact Nat.le_refl _), fun k hk => (hn k hk).elim, World.ownsRow_nil _ _ _ _, fun k hk => (hn k hk).elim⟩
theorem cut_size {n : Nat} {r : RSt} (h : r.Ok n) (m : ByteArray) : (r.cut m).size = 4096 := by
  unfold RSt.cut
  split
  · rw [prog_sz]; exact h.A
  · split
    · rw [erase_sz]; exact h.A
    · exact h.A
theorem ok_loss {n : Nat} {r : RSt} (h : r.Ok n) (m : ByteArray) (k : Nat) : (r.loss m).Ok k := by
  have h0 := newR_ok (r.cut m) (cut_size h m) k
  exact ⟨h0.A, h.wiped, h0.durs, h0.kind, h0.left, h0.going, h0.wat, h0.wdata, h0.op, h0.opm, h0.x, h0.x0, h0.bits, h0.bits8, h0.outs, h0.addr1, h0.addr2, h0.part, h0.begun, h0.adr, h0.mode, h0.inn, h0.count, h0.clocks, h0.sent, h0.out⟩

set_option maxRecDepth 100000 in
set_option maxHeartbeats 4000000 in
theorem rloss_run (F : Nat → Prop) (n k b : Nat) (u w : World) (r : RSt) (m : ByteArray) (h : RRun F n b u w r) (hms : m.size ≤ maxLen) :
    Calls Tryz.prog 19 #[.pointer (some ⟨b, 0, none⟩), .string m] w fun e w' => e = .returned (.tuple #[]) ∧ RRun F k b u w' (r.loss m) := by
  obtain ⟨wv, dv, iv, hA, hR⟩ := h.lies
  have hm := h.mine
  have HR : Hid (Rows3 F u w b r.wiped r.durs r.inn wv dv iv) := hR
  have HT : Hid (Turns F u w) := h.turns
  obtain ⟨Z, HZ⟩ := hid_is (r.loss m)
  have HZok : Hid (Z.Ok k) := by rw [← HZ.out]; exact ok_loss h.ok m k
  obtain ⟨C, HCC⟩ := hid_is (r.cut m)
  have HC : Hid (C.size = 4096) := by rw [← HCC.out]; exact cut_size h.ok m
  have HZC : Hid ({ newR C with prot := r.prot, quad := r.quad, wiped := r.wiped } = Z) := by rw [← HZ.out, ← HCC.out]; rfl
  have HWiped : Hid (Z.wiped = r.wiped ∧ Z.durs = [] ∧ Z.inn = []) := by rw [← HZC.out]; exact ⟨rfl, rfl, rfl⟩
  have c0 : w.cell? ⟨b, 0, none⟩ = some (.string r.A) := Blk.cell hA 0 rfl
  have c7 : w.cell? ⟨b, 7, none⟩ = some (.int .i64 (r.kind : Int)) := Blk.cell hA 7 rfl
  have c8 : w.cell? ⟨b, 8, none⟩ = some (.int .i64 (r.wat : Int)) := Blk.cell hA 8 rfl
  have c9 : w.cell? ⟨b, 9, none⟩ = some (.string r.wdata) := Blk.cell hA 9 rfl
  have HA : Hid (RAt w b r wv dv iv) := hA
  have hk := h.ok.kind
  have hok := h.ok
  rw [HZ.out]
  clear HZ
  have HZ := HZC
  clear HZC h hA hR
  rcases hk with hk | hk | hk
  · have E : Hid (C = r.A) := by rw [Hid, ← HCC.out]; unfold RSt.cut; rw [if_neg (by omega), if_neg (by omega)]
    rw [hk] at c7
    go_enter Tryz.func19, Tryz.ntmps19
    go_upto_region 6 with fail
    obtain ⟨W, hW⟩ : ∃ W, W = w := ⟨_, rfl⟩
    have h4 : RAt W b { r with A := C } wv dv iv := by rw [hW, E.out]; exact HA.out
    have O4 : Hid (Only b w W) := by rw [hW]; exact Only.refl b w
    have HGN : w.heap.size ≤ W.heap.size + 1 := by rw [hW]; omega
    rw [← hW]
    clear c0 c7 c8 c9 HA hok E hk hW
    have c0 : W.cell? ⟨b, 0, none⟩ = some (.string C) := Blk.cell h4 0 rfl
    have H4 : Hid (RAt W b { r with A := C } wv dv iv) := h4
    clear h4
    go_wp2_with fail
    refine (rnew_at C _ HC.out).mono ?_
    rintro e W6 ⟨rfl, k6, b6⟩
    have h6 := Blk.below H4.out b6
    have hbg : b < W.heap.size := Blk.lt H4.out
    have O6 : Hid (Only b w W6) := O4.out.below b6
    have hbg' : b ≠ W.heap.size + 1 := by omega
    generalize W.heap.size + 1 = g at k6 hbg' HGN ⊢
    have q1 : W6.cell? ⟨b, 1, none⟩ = some (.bool r.prot) := Blk.cell h6 1 rfl
    have q2 : W6.cell? ⟨b, 2, none⟩ = some (.bool r.quad) := Blk.cell h6 2 rfl
    have q3 : W6.cell? ⟨b, 3, none⟩ = some wv := Blk.cell h6 3 rfl
    have p1 : W6.cell? ⟨g, 1, none⟩ = some (.bool false) := Blk.cell k6 1 rfl
    have p2 : W6.cell? ⟨g, 2, none⟩ = some (.bool false) := Blk.cell k6 2 rfl
    obtain ⟨gw, ew, -⟩ := HR.out.wiped
    subst ew
    have p3 : ∃ x, W6.cell? ⟨g, 3, none⟩ = some x := ⟨_, Blk.cell k6 3 rfl⟩
    obtain ⟨x3, p3⟩ := p3
    have z1 := Blk.frozen k6 1
    have z2 := Blk.frozen k6 2
    have z3 := Blk.frozen k6 3
    have h7 : RAt (((W6.setCell ⟨g, 1, none⟩ (.bool r.prot)).setCell ⟨g, 2, none⟩ (.bool r.quad)).setCell ⟨g, 3, none⟩ (.slice (some ⟨gw, 0, none⟩) 8 8)) b { r with A := C } (.slice (some ⟨gw, 0, none⟩) 8 8) dv iv := Blk.other (Blk.other (Blk.other h6 _ _ _ hbg'.symm) _ _ _ hbg'.symm) _ _ _ hbg'.symm
    have k7 : RAt (((W6.setCell ⟨g, 1, none⟩ (.bool r.prot)).setCell ⟨g, 2, none⟩ (.bool r.quad)).setCell ⟨g, 3, none⟩ (.slice (some ⟨gw, 0, none⟩) 8 8)) g Z (.slice (some ⟨gw, 0, none⟩) 8 8) (.slice none 0 0) (.slice none 0 0) := by rw [← HZ.out]; exact Blk.set (Blk.set (Blk.set k6 1 _) 2 _) 3 _
    have O7 : Hid (Only b w (((W6.setCell ⟨g, 1, none⟩ (.bool r.prot)).setCell ⟨g, 2, none⟩ (.bool r.quad)).setCell ⟨g, 3, none⟩ (.slice (some ⟨gw, 0, none⟩) 8 8))) := ((O6.out.setNew g 1 _ HGN).setNew g 2 _ HGN).setNew g 3 _ HGN
    have H6 : Hid (RAt W6 b { r with A := C } (.slice (some ⟨gw, 0, none⟩) 8 8) dv iv) := h6
    clear h6 k6
    go_upto_region 10 with fail
    generalize (((W6.setCell ⟨g, 1, none⟩ (.bool r.prot)).setCell ⟨g, 2, none⟩ (.bool r.quad)).setCell ⟨g, 3, none⟩ (.slice (some ⟨gw, 0, none⟩) 8 8)) = W7 at h7 k7 O7 ⊢
    clear q1 q2 q3 p1 p2 p3 z1 z2 z3 c0
    have Hrg : Hid (W7.rangeAt g 0 (rCells Z (.slice (some ⟨gw, 0, none⟩) 8 8) (.slice none 0 0) (.slice none 0 0))) := Blk.range k7 0 _ rfl
    have Hth : Hid (W7.there b 0 (rCells Z (.slice (some ⟨gw, 0, none⟩) 8 8) (.slice none 0 0) (.slice none 0 0)).toArray.size) := Blk.there h7 0 31 (Nat.le_refl 31)
    have Hin : Hid ((Tryz.prog.info? 81).map (·.size) = some (rCells Z (.slice (some ⟨gw, 0, none⟩) 8 8) (.slice none 0 0) (.slice none 0 0)).length) := info54
    have Hin' : Hid ((Tryz.prog.info? 81).map (·.size) = some (rCells Z (.slice (some ⟨gw, 0, none⟩) 8 8) (.slice none 0 0) (.slice none 0 0)).toArray.size) := info54
    have Hon : Hid ((rCells Z (.slice (some ⟨gw, 0, none⟩) 8 8) (.slice none 0 0) (.slice none 0 0)).toArray.all (·.oneCell') = true) := r_ones Z gw
    have HFIN : Hid (RAt (W7.setCells b 0 (rCells Z (.slice (some ⟨gw, 0, none⟩) 8 8) (.slice none 0 0) (.slice none 0 0)).toArray.toList) b Z (.slice (some ⟨gw, 0, none⟩) 8 8) (.slice none 0 0) (.slice none 0 0) ∧ Only b w (W7.setCells b 0 (rCells Z (.slice (some ⟨gw, 0, none⟩) 8 8) (.slice none 0 0) (.slice none 0 0)).toArray.toList)) := by
      refine ⟨?_, O7.out.sets 0 _⟩
      have := Blk.sets h7 0 (rCells Z (.slice (some ⟨gw, 0, none⟩) 8 8) (.slice none 0 0) (.slice none 0 0)) (by show 0 + 31 ≤ 31; decide)
      exact this
    obtain ⟨cs, Hcs⟩ := hid_is (rCells Z (.slice (some ⟨gw, 0, none⟩) 8 8) (.slice none 0 0) (.slice none 0 0))
    rw [Hcs.out] at Hrg Hth Hin Hin' Hon HFIN
    clear h7 k7
    go_wp2_with (first | (refine wpList_load_mid rfl 81 _ rfl g 0 rfl cs _ Hrg.out Tryz.underlying81 rfl Hin.out ?_) | (refine wpList_store_mid rfl 81 _ _ rfl b 0 cs.toArray rfl rfl Hth.out Hin'.out Hon.out ?_; generalize hW : W7.setCells b 0 cs.toArray.toList = W8))
    first | go_end0 | refine bodyPost_ret (results_none rfl _ _ _) rfl ?_
    rw [← hW]
    have o8 := HFIN.out.2
    refine ⟨rfl, HT.out.only o8 hm, hm, HZok.out, _, _, _, HFIN.out.1, ?_⟩
    have hr := (HR.out.only o8).lost
    rw [HWiped.out.1, HWiped.out.2.1, HWiped.out.2.2]
    exact hr
  · have hwd := hok.wdata hk
    have HP : Hid (∀ v : World, Calls Tryz.prog 44 #[.string r.A, .int .i64 (r.wat : Int), .string r.wdata, .string m] v fun e w' => ∃ R, e = .returned (.tuple #[.string R, .int .i64 0]) ∧ Hid (R = C) ∧ Below v.heap.size v w') := fun v => by
      have E : C = prog r.A r.wat r.wdata m := by rw [← HCC.out]; unfold RSt.cut; rw [if_pos hk]
      rw [E]; exact refProgramCut_yes r.A r.wat r.wdata m v hok.A hwd hms
    rw [hk] at c7
    clear hk hwd
    go_enter Tryz.func19, Tryz.ntmps19
    go_wp2_with fail
    go_region_with (go_at_call 44; refine (HP.out _).mono ?_; rintro e v ⟨R, rfl, HRC, bv⟩)
    all_goals
      have bw : Below w.heap.size w v := below_then ((Below.refl _ _).drew) bv
      have hv := Blk.below HA.out bw
      have q0 : v.cell? ⟨b, 0, none⟩ = some (.string r.A) := Blk.cell hv 0 rfl
      have z0 := Blk.frozen hv 0
      have h4 : RAt (v.setCell ⟨b, 0, none⟩ (.string R)) b { r with A := C } wv dv iv := by rw [← HRC.out]; exact Blk.set hv 0 _
      have O4 : Hid (Only b w (v.setCell ⟨b, 0, none⟩ (.string R))) := (Only.of_below bw).set 0 _
      have HGN : w.heap.size ≤ (v.setCell ⟨b, 0, none⟩ (.string R)).heap.size + 1 := by have := bw.size; simp; omega
      clear hv
      go_upto_region 6 with fail
      generalize v.setCell ⟨b, 0, none⟩ (.string R) = W at h4 O4 HGN ⊢
      clear c0 c7 c8 c9 HA hok q0 z0 bw bv HRC HP
      have c0 : W.cell? ⟨b, 0, none⟩ = some (.string C) := Blk.cell h4 0 rfl
      have H4 : Hid (RAt W b { r with A := C } wv dv iv) := h4
      clear h4
      go_wp2_with fail
      refine (rnew_at C _ HC.out).mono ?_
      rintro e W6 ⟨rfl, k6, b6⟩
      have h6 := Blk.below H4.out b6
      have hbg : b < W.heap.size := Blk.lt H4.out
      have O6 : Hid (Only b w W6) := O4.out.below b6
      have hbg' : b ≠ W.heap.size + 1 := by omega
      generalize W.heap.size + 1 = g at k6 hbg' HGN ⊢
      have q1 : W6.cell? ⟨b, 1, none⟩ = some (.bool r.prot) := Blk.cell h6 1 rfl
      have q2 : W6.cell? ⟨b, 2, none⟩ = some (.bool r.quad) := Blk.cell h6 2 rfl
      have q3 : W6.cell? ⟨b, 3, none⟩ = some wv := Blk.cell h6 3 rfl
      have p1 : W6.cell? ⟨g, 1, none⟩ = some (.bool false) := Blk.cell k6 1 rfl
      have p2 : W6.cell? ⟨g, 2, none⟩ = some (.bool false) := Blk.cell k6 2 rfl
      obtain ⟨gw, ew, -⟩ := HR.out.wiped
      subst ew
      have p3 : ∃ x, W6.cell? ⟨g, 3, none⟩ = some x := ⟨_, Blk.cell k6 3 rfl⟩
      obtain ⟨x3, p3⟩ := p3
      have z1 := Blk.frozen k6 1
      have z2 := Blk.frozen k6 2
      have z3 := Blk.frozen k6 3
      have h7 : RAt (((W6.setCell ⟨g, 1, none⟩ (.bool r.prot)).setCell ⟨g, 2, none⟩ (.bool r.quad)).setCell ⟨g, 3, none⟩ (.slice (some ⟨gw, 0, none⟩) 8 8)) b { r with A := C } (.slice (some ⟨gw, 0, none⟩) 8 8) dv iv := Blk.other (Blk.other (Blk.other h6 _ _ _ hbg'.symm) _ _ _ hbg'.symm) _ _ _ hbg'.symm
      have k7 : RAt (((W6.setCell ⟨g, 1, none⟩ (.bool r.prot)).setCell ⟨g, 2, none⟩ (.bool r.quad)).setCell ⟨g, 3, none⟩ (.slice (some ⟨gw, 0, none⟩) 8 8)) g Z (.slice (some ⟨gw, 0, none⟩) 8 8) (.slice none 0 0) (.slice none 0 0) := by rw [← HZ.out]; exact Blk.set (Blk.set (Blk.set k6 1 _) 2 _) 3 _
      have O7 : Hid (Only b w (((W6.setCell ⟨g, 1, none⟩ (.bool r.prot)).setCell ⟨g, 2, none⟩ (.bool r.quad)).setCell ⟨g, 3, none⟩ (.slice (some ⟨gw, 0, none⟩) 8 8))) := ((O6.out.setNew g 1 _ HGN).setNew g 2 _ HGN).setNew g 3 _ HGN
      have H6 : Hid (RAt W6 b { r with A := C } (.slice (some ⟨gw, 0, none⟩) 8 8) dv iv) := h6
      clear h6 k6
      go_upto_region 10 with fail
      generalize (((W6.setCell ⟨g, 1, none⟩ (.bool r.prot)).setCell ⟨g, 2, none⟩ (.bool r.quad)).setCell ⟨g, 3, none⟩ (.slice (some ⟨gw, 0, none⟩) 8 8)) = W7 at h7 k7 O7 ⊢
      clear q1 q2 q3 p1 p2 p3 z1 z2 z3 c0
      have Hrg : Hid (W7.rangeAt g 0 (rCells Z (.slice (some ⟨gw, 0, none⟩) 8 8) (.slice none 0 0) (.slice none 0 0))) := Blk.range k7 0 _ rfl
      have Hth : Hid (W7.there b 0 (rCells Z (.slice (some ⟨gw, 0, none⟩) 8 8) (.slice none 0 0) (.slice none 0 0)).toArray.size) := Blk.there h7 0 31 (Nat.le_refl 31)
      have Hin : Hid ((Tryz.prog.info? 81).map (·.size) = some (rCells Z (.slice (some ⟨gw, 0, none⟩) 8 8) (.slice none 0 0) (.slice none 0 0)).length) := info54
      have Hin' : Hid ((Tryz.prog.info? 81).map (·.size) = some (rCells Z (.slice (some ⟨gw, 0, none⟩) 8 8) (.slice none 0 0) (.slice none 0 0)).toArray.size) := info54
      have Hon : Hid ((rCells Z (.slice (some ⟨gw, 0, none⟩) 8 8) (.slice none 0 0) (.slice none 0 0)).toArray.all (·.oneCell') = true) := r_ones Z gw
      have HFIN : Hid (RAt (W7.setCells b 0 (rCells Z (.slice (some ⟨gw, 0, none⟩) 8 8) (.slice none 0 0) (.slice none 0 0)).toArray.toList) b Z (.slice (some ⟨gw, 0, none⟩) 8 8) (.slice none 0 0) (.slice none 0 0) ∧ Only b w (W7.setCells b 0 (rCells Z (.slice (some ⟨gw, 0, none⟩) 8 8) (.slice none 0 0) (.slice none 0 0)).toArray.toList)) := by
        refine ⟨?_, O7.out.sets 0 _⟩
        have := Blk.sets h7 0 (rCells Z (.slice (some ⟨gw, 0, none⟩) 8 8) (.slice none 0 0) (.slice none 0 0)) (by show 0 + 31 ≤ 31; decide)
        exact this
      obtain ⟨cs, Hcs⟩ := hid_is (rCells Z (.slice (some ⟨gw, 0, none⟩) 8 8) (.slice none 0 0) (.slice none 0 0))
      rw [Hcs.out] at Hrg Hth Hin Hin' Hon HFIN
      clear h7 k7
      go_wp2_with (first | (refine wpList_load_mid rfl 81 _ rfl g 0 rfl cs _ Hrg.out Tryz.underlying81 rfl Hin.out ?_) | (refine wpList_store_mid rfl 81 _ _ rfl b 0 cs.toArray rfl rfl Hth.out Hin'.out Hon.out ?_; generalize hW : W7.setCells b 0 cs.toArray.toList = W8))
      first | go_end0 | refine bodyPost_ret (results_none rfl _ _ _) rfl ?_
      rw [← hW]
      have o8 := HFIN.out.2
      refine ⟨rfl, HT.out.only o8 hm, hm, HZok.out, _, _, _, HFIN.out.1, ?_⟩
      have hr := (HR.out.only o8).lost
      rw [HWiped.out.1, HWiped.out.2.1, HWiped.out.2.2]
      exact hr
  · have hwa := hok.wat
    obtain ⟨z, hz⟩ : ∃ z : Int, z = ((r.wat / 512 : Nat) : Int) := ⟨_, rfl⟩
    have z1 : (r.wat : Int).tdiv 512 = z := hz.symm
    have z2 : (r.wat : Int) / 512 = z := by rw [hz]; omega
    have z3 : IntKind.i64.wrap z = z := IntWalk.i64_in _ (by rw [hz]; omega)
    have HP : Hid (∀ v : World, Calls Tryz.prog 45 #[.string r.A, .int .i64 z, .string m] v fun e w' => ∃ R, e = .returned (.tuple #[.string R, .int .i64 0]) ∧ Hid (R = C) ∧ Below v.heap.size v w') := fun v => by
      have E : C = erase r.A (r.wat / 512) m := by rw [← HCC.out]; unfold RSt.cut; rw [if_neg (by omega), if_pos hk]
      rw [E, hz]; exact refEraseCut_yes r.A (r.wat / 512) m v hok.A (by omega) hms
    rw [hk] at c7
    clear hk hz
    go_enter Tryz.func19, Tryz.ntmps19
    go_wp2_with fail
    go_region_with (go_at_call 45; refine (HP.out _).mono ?_; rintro e v ⟨R, rfl, HRC, bv⟩)
    all_goals
      have bw : Below w.heap.size w v := below_then ((Below.refl _ _).drew) bv
      have hv := Blk.below HA.out bw
      have q0 : v.cell? ⟨b, 0, none⟩ = some (.string r.A) := Blk.cell hv 0 rfl
      have z0 := Blk.frozen hv 0
      have h4 : RAt (v.setCell ⟨b, 0, none⟩ (.string R)) b { r with A := C } wv dv iv := by rw [← HRC.out]; exact Blk.set hv 0 _
      have O4 : Hid (Only b w (v.setCell ⟨b, 0, none⟩ (.string R))) := (Only.of_below bw).set 0 _
      have HGN : w.heap.size ≤ (v.setCell ⟨b, 0, none⟩ (.string R)).heap.size + 1 := by have := bw.size; simp; omega
      clear hv
      go_upto_region 6 with fail
      generalize v.setCell ⟨b, 0, none⟩ (.string R) = W at h4 O4 HGN ⊢
      clear c0 c7 c8 c9 HA hok q0 z0 bw bv HRC HP z1 z2 z3
      have c0 : W.cell? ⟨b, 0, none⟩ = some (.string C) := Blk.cell h4 0 rfl
      have H4 : Hid (RAt W b { r with A := C } wv dv iv) := h4
      clear h4
      go_wp2_with fail
      refine (rnew_at C _ HC.out).mono ?_
      rintro e W6 ⟨rfl, k6, b6⟩
      have h6 := Blk.below H4.out b6
      have hbg : b < W.heap.size := Blk.lt H4.out
      have O6 : Hid (Only b w W6) := O4.out.below b6
      have hbg' : b ≠ W.heap.size + 1 := by omega
      generalize W.heap.size + 1 = g at k6 hbg' HGN ⊢
      have q1 : W6.cell? ⟨b, 1, none⟩ = some (.bool r.prot) := Blk.cell h6 1 rfl
      have q2 : W6.cell? ⟨b, 2, none⟩ = some (.bool r.quad) := Blk.cell h6 2 rfl
      have q3 : W6.cell? ⟨b, 3, none⟩ = some wv := Blk.cell h6 3 rfl
      have p1 : W6.cell? ⟨g, 1, none⟩ = some (.bool false) := Blk.cell k6 1 rfl
      have p2 : W6.cell? ⟨g, 2, none⟩ = some (.bool false) := Blk.cell k6 2 rfl
      obtain ⟨gw, ew, -⟩ := HR.out.wiped
      subst ew
      have p3 : ∃ x, W6.cell? ⟨g, 3, none⟩ = some x := ⟨_, Blk.cell k6 3 rfl⟩
      obtain ⟨x3, p3⟩ := p3
      have z1 := Blk.frozen k6 1
      have z2 := Blk.frozen k6 2
      have z3 := Blk.frozen k6 3
      have h7 : RAt (((W6.setCell ⟨g, 1, none⟩ (.bool r.prot)).setCell ⟨g, 2, none⟩ (.bool r.quad)).setCell ⟨g, 3, none⟩ (.slice (some ⟨gw, 0, none⟩) 8 8)) b { r with A := C } (.slice (some ⟨gw, 0, none⟩) 8 8) dv iv := Blk.other (Blk.other (Blk.other h6 _ _ _ hbg'.symm) _ _ _ hbg'.symm) _ _ _ hbg'.symm
      have k7 : RAt (((W6.setCell ⟨g, 1, none⟩ (.bool r.prot)).setCell ⟨g, 2, none⟩ (.bool r.quad)).setCell ⟨g, 3, none⟩ (.slice (some ⟨gw, 0, none⟩) 8 8)) g Z (.slice (some ⟨gw, 0, none⟩) 8 8) (.slice none 0 0) (.slice none 0 0) := by rw [← HZ.out]; exact Blk.set (Blk.set (Blk.set k6 1 _) 2 _) 3 _
      have O7 : Hid (Only b w (((W6.setCell ⟨g, 1, none⟩ (.bool r.prot)).setCell ⟨g, 2, none⟩ (.bool r.quad)).setCell ⟨g, 3, none⟩ (.slice (some ⟨gw, 0, none⟩) 8 8))) := ((O6.out.setNew g 1 _ HGN).setNew g 2 _ HGN).setNew g 3 _ HGN
      have H6 : Hid (RAt W6 b { r with A := C } (.slice (some ⟨gw, 0, none⟩) 8 8) dv iv) := h6
      clear h6 k6
      go_upto_region 10 with fail
      generalize (((W6.setCell ⟨g, 1, none⟩ (.bool r.prot)).setCell ⟨g, 2, none⟩ (.bool r.quad)).setCell ⟨g, 3, none⟩ (.slice (some ⟨gw, 0, none⟩) 8 8)) = W7 at h7 k7 O7 ⊢
      clear q1 q2 q3 p1 p2 p3 z1 z2 z3 c0
      have Hrg : Hid (W7.rangeAt g 0 (rCells Z (.slice (some ⟨gw, 0, none⟩) 8 8) (.slice none 0 0) (.slice none 0 0))) := Blk.range k7 0 _ rfl
      have Hth : Hid (W7.there b 0 (rCells Z (.slice (some ⟨gw, 0, none⟩) 8 8) (.slice none 0 0) (.slice none 0 0)).toArray.size) := Blk.there h7 0 31 (Nat.le_refl 31)
      have Hin : Hid ((Tryz.prog.info? 81).map (·.size) = some (rCells Z (.slice (some ⟨gw, 0, none⟩) 8 8) (.slice none 0 0) (.slice none 0 0)).length) := info54
      have Hin' : Hid ((Tryz.prog.info? 81).map (·.size) = some (rCells Z (.slice (some ⟨gw, 0, none⟩) 8 8) (.slice none 0 0) (.slice none 0 0)).toArray.size) := info54
      have Hon : Hid ((rCells Z (.slice (some ⟨gw, 0, none⟩) 8 8) (.slice none 0 0) (.slice none 0 0)).toArray.all (·.oneCell') = true) := r_ones Z gw
      have HFIN : Hid (RAt (W7.setCells b 0 (rCells Z (.slice (some ⟨gw, 0, none⟩) 8 8) (.slice none 0 0) (.slice none 0 0)).toArray.toList) b Z (.slice (some ⟨gw, 0, none⟩) 8 8) (.slice none 0 0) (.slice none 0 0) ∧ Only b w (W7.setCells b 0 (rCells Z (.slice (some ⟨gw, 0, none⟩) 8 8) (.slice none 0 0) (.slice none 0 0)).toArray.toList)) := by
        refine ⟨?_, O7.out.sets 0 _⟩
        have := Blk.sets h7 0 (rCells Z (.slice (some ⟨gw, 0, none⟩) 8 8) (.slice none 0 0) (.slice none 0 0)) (by show 0 + 31 ≤ 31; decide)
        exact this
      obtain ⟨cs, Hcs⟩ := hid_is (rCells Z (.slice (some ⟨gw, 0, none⟩) 8 8) (.slice none 0 0) (.slice none 0 0))
      rw [Hcs.out] at Hrg Hth Hin Hin' Hon HFIN
      clear h7 k7
      go_wp2_with (first | (refine wpList_load_mid rfl 81 _ rfl g 0 rfl cs _ Hrg.out Tryz.underlying81 rfl Hin.out ?_) | (refine wpList_store_mid rfl 81 _ _ rfl b 0 cs.toArray rfl rfl Hth.out Hin'.out Hon.out ?_; generalize hW : W7.setCells b 0 cs.toArray.toList = W8))
      first | go_end0 | refine bodyPost_ret (results_none rfl _ _ _) rfl ?_
      rw [← hW]
      have o8 := HFIN.out.2
      refine ⟨rfl, HT.out.only o8 hm, hm, HZok.out, _, _, _, HFIN.out.1, ?_⟩
      have hr := (HR.out.only o8).lost
      rw [HWiped.out.1, HWiped.out.2.1, HWiped.out.2.2]
      exact hr
end Go.Proofs.YtlemmabgbaleiaaGreat
