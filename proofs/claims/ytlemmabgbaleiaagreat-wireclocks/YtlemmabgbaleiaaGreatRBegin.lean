/-
  A program or an erase begins: the document's chip, by contracts. Conditions: the chip lies in memory as told, and is one that may be.
-/
import Derived.Test.YtlemmabgbaleiaaGreatRNext2
import Derived.Test.YtlemmabgbaleiaaGreatBegin
namespace Go.Proofs.YtlemmabgbaleiaaGreat
open Go.RowKit Plain
set_option linter.unusedVariables false

set_option maxRecDepth 100000 in
set_option maxHeartbeats 1000000 in
theorem rbegin_off (b : Nat) (r : RSt) (wv dv iv : Value) (w : World) (h : RAt w b r wv dv iv) (he : r.en = false) :
    Calls Tryz.prog 66 #[.pointer (some ⟨b, 0, none⟩)] w fun e w' => e = .returned (.tuple #[]) ∧ w = w' := by
  have c5 : w.cell? ⟨b, 5, none⟩ = some (.bool false) := by rw [Blk.cell h 5 rfl, he]
  clear h he
  go_enter Tryz.func66, Tryz.ntmps66
  go_wp2
  first | go_end0 | refine bodyPost_ret (results_none rfl _ _ _) rfl ?_
  exact ⟨rfl, rfl⟩
set_option maxRecDepth 100000 in
set_option maxHeartbeats 1000000 in
theorem rbegin_prot (b : Nat) (r : RSt) (wv dv iv : Value) (w : World) (h : RAt w b r wv dv iv) (he : r.en = true) (hp : (r.prot && decide (r.adr < 2048)) = true) :
    Calls Tryz.prog 66 #[.pointer (some ⟨b, 0, none⟩)] w fun e w' => e = .returned (.tuple #[]) ∧ RAt w' b { r with en := false } wv dv iv ∧ Only b w w' := by
  have c5 : w.cell? ⟨b, 5, none⟩ = some (.bool true) := by rw [Blk.cell h 5 rfl, he]
  have c1 : w.cell? ⟨b, 1, none⟩ = some (.bool r.prot) := Blk.cell h 1 rfl
  have c24 : w.cell? ⟨b, 24, none⟩ = some (.int .i64 (r.adr : Int)) := Blk.cell h 24 rfl
  have f5 := Blk.frozen h 5
  have HP : Hid (∀ v : World, Calls Tryz.prog 92 #[.bool r.prot, .int .i64 (r.adr : Int)] v fun e w' => e = .returned (.tuple #[.bool true, .int .i64 (pE r.adr)]) ∧ w' = v) := fun v => (ref_prot r.prot r.adr v).mono fun e w' ⟨h1, h2⟩ => by rw [pB_is, hp] at h1; exact ⟨h1, h2.symm⟩
  have H : Hid (RAt w b r wv dv iv) := h
  clear h he hp
  go_enter Tryz.func66, Tryz.ntmps66
  go_wp2_with fail
  go_quiet (first | (go_at_call 92; exact Calls.quiet_of_same (HP.out _)))
  have h1 : RAt (w.drewN nq) b r wv dv iv := RAt.drewN H.out nq
  have o1 : Only b w (w.drewN nq) := (Only.refl b w).drewN nq
  generalize w.drewN nq = W at h1 o1 ⊢
  clear c5 c1 c24 f5
  have c5 : W.cell? ⟨b, 5, none⟩ = some (.bool r.en) := Blk.cell h1 5 rfl
  have f5 := Blk.frozen h1 5
  go_wp2
  first | go_end0 | refine bodyPost_ret (results_none rfl _ _ _) rfl ?_
  exact ⟨rfl, Blk.set h1 5 _, o1.set 5 _⟩

theorem full_32 (w : World) :
    Calls Tryz.prog 48 #[.int .i64 32] w fun e w' => e = .returned (.string (full 32)) ∧ Below w.heap.size w w' := by
  obtain ⟨W1, hmk, hb0, hbel, hsz⟩ := make_bytes w 32 (by omega)
  have hmk' : (Instr.makeSlice 62 (.int .i64 32) (.int .i64 32)).run Tryz.prog w = .ok (.slice (some ⟨w.heap.size, 0, none⟩) 32 32) W1 := hmk
  clear hmk
  go_enter Tryz.func48, Tryz.ntmps48
  go_wp2
  go_loopw [4] (fun i wr => ∃ k : Nat, k ≤ 32 ∧ i = .int .i64 k ∧ Bytes wr w.heap.size 32 (fun j => if j < k then 255 else 0) ∧ Below w.heap.size w wr) (fun i _ => 32 - (intOf i).toNat)
  case atStart => exact ⟨0, Nat.zero_le _, rfl, hb0.congr (fun j _ => by simp), hbel⟩
  case round =>
    obtain ⟨k, hk, rfl, hb, hbl⟩ := hrel
    clear hmk' hb0 hbel
    by_cases hlt : k < 32
    · have hc := (hb k hlt).1
      have hf := (hb k hlt).2
      go_wp2
      go_roundw
      case rel => exact ⟨k + 1, by omega, by go_num, (hb.set k hlt 255).congr (fun j _ => step255 k j), hbl.setCell (Nat.le_refl _) _⟩
      case measure => simp [intOf]; omega
    · have hk' : k = 32 := by omega
      obtain ⟨R, hbk, HR⟩ := hb.back_is (f' := fun _ => 255) (fun j hj => by rw [if_pos (by omega)]) 32
      clear hb
      go_wp2
      go_ret
      exact ⟨ret_string HR.out, hbl⟩
theorem page_succ (a : Nat) (L : List Nat) (n j : Nat) : pageAt a L (n + 1) j = if j = (a + n) % 32 then UInt8.ofNat (L.getD n 0) else pageAt a L n j := rfl
theorem bytes_only {w w' : World} {b g n : Nat} {f : Nat → UInt8} (h : Bytes w g n f) (k : Only b w w') (hg : g ≠ b) (hl : g < w.heap.size) : Bytes w' g n f := fun j hj => by
  obtain ⟨h1, h2⟩ := h j hj
  have e := k.block g hl hg
  exact ⟨(World.cell?_of_block (w := w) e).trans h1, (World.frozen?_of_block (w := w) e).trans h2⟩
theorem Rows3.wiped' {F : Nat → Prop} {u w : World} {b g i : Nat} {W D : List Int} {I : List Nat} {wv dv iv : Value} (h : Rows3 F u w b W D I wv dv iv) (e : wv = .slice (some ⟨g, 0, none⟩) 8 8) (x : Int) :
    Rows3 F u (w.setCell ⟨g, i, none⟩ (.int .i64 x)) b (W.set i x) D I wv dv iv := by
  obtain ⟨g', e', hg, ho, hne, hd, hi⟩ := h.wiped
  obtain rfl : g' = g := by rw [e] at e'; simpa using e'.symm
  have o : Only g' w (w.setCell ⟨g', i, none⟩ (.int .i64 x)) := (Only.refl g' w).set i _
  refine ⟨⟨g', e', ?_, ho, hne, hd, hi⟩, reads_only h.durs o (fun k hk h0 => hd k hk h0), h.dcap, h.dblk, owns_only0 h.inn o hi, h.iblk⟩
  rw [List.map_set]
  exact hg.set i _

/-- What has begun, but for the place and what is done there. -/
def RSt.going (r : RSt) : RSt := { r with kind := r.op.byte, left := (r.durs.headD 8).toNat, durs := r.durs.tail }
/-- What a call leaves, ahead of its end: the chip r', its rows. -/
def RMid (F : Nat → Prop) (b : Nat) (u w : World) (r : RSt) : Prop := Turns F u w ∧ ∃ wv dv iv, RAt w b r wv dv iv ∧ Rows3 F u w b r.wiped r.durs r.inn wv dv iv

set_option maxRecDepth 100000 in
set_option maxHeartbeats 4000000 in
theorem rbegin_on (F : Nat → Prop) (n b : Nat) (u w : World) (r : RSt) (h : RRun F n b u w r) (he : r.en = true) (hp : (r.prot && decide (r.adr < 2048)) = false) (hby : r.op.byte = 2 ∨ r.op.byte = 32) (hn : n < 1000000) :
    Calls Tryz.prog 66 #[.pointer (some ⟨b, 0, none⟩)] w fun e w' => e = .returned (.tuple #[]) ∧ RMid F b u w' r.begin := by
  obtain ⟨i0, hi0, hz0, hz1, hz2⟩ := info_parts info3
  obtain ⟨wv, dv, iv, hA, hR⟩ := h.lies
  have hm := h.mine
  have c5 : w.cell? ⟨b, 5, none⟩ = some (.bool true) := by rw [Blk.cell hA 5 rfl, he]
  have c1 : w.cell? ⟨b, 1, none⟩ = some (.bool r.prot) := Blk.cell hA 1 rfl
  have c24 : w.cell? ⟨b, 24, none⟩ = some (.int .i64 (r.adr : Int)) := Blk.cell hA 24 rfl
  have HP : Hid (∀ v : World, Calls Tryz.prog 92 #[.bool r.prot, .int .i64 (r.adr : Int)] v fun e w' => e = .returned (.tuple #[.bool false, .int .i64 (pE r.adr)]) ∧ w' = v) := fun v => (ref_prot r.prot r.adr v).mono fun e w' ⟨h1, h2⟩ => by rw [pB_is, hp] at h1; exact ⟨h1, h2.symm⟩
  have HB32 : Hid (r.op.byte = 32 → r.begin = { r.going with wat := r.adr, wiped := r.wiped.set (r.adr / 512) (wrap64 (r.wiped.getD (r.adr / 512) 0 + 1)) }) := fun e => by
    unfold RSt.begin; rw [if_neg (by rw [he]; decide), if_neg (by rw [hp]; decide), if_pos e]; unfold RSt.going; rw [e]
  have HB2 : Hid (r.op.byte = 2 → r.begin = { r.going with wat := r.adr / 32 * 32, wdata := pageR r.adr r.inn }) := fun e => by
    unfold RSt.begin; rw [if_neg (by rw [he]; decide), if_neg (by rw [hp]; decide), if_neg (by omega)]; rfl
  have HH : Hid (RRun F n b u w r) := h
  have HA : Hid (RAt w b r wv dv iv) := hA
  have HR : Hid (Rows3 F u w b r.wiped r.durs r.inn wv dv iv) := hR
  clear h hA hR he hp
  go_enter Tryz.func66, Tryz.ntmps66
  go_wp2_with fail
  go_quiet (first | (go_at_call 92; exact Calls.quiet_of_same (HP.out _)))
  have h1 : RAt (w.drewN nq) b r wv dv iv := RAt.drewN HA.out nq
  have o1 : Only b w (w.drewN nq) := (Only.refl b w).drewN nq
  generalize w.drewN nq = W at h1 o1 ⊢
  clear c5 c1 c24 HP
  have c13 : W.cell? ⟨b, 13, none⟩ = some (.int .i64 (r.op.byte : Int)) := Blk.cell h1 13 rfl
  have c7 : W.cell? ⟨b, 7, none⟩ = some (.int .i64 (r.kind : Int)) := Blk.cell h1 7 rfl
  have c10 : W.cell? ⟨b, 10, none⟩ = some (.int .i64 (r.left : Int)) := Blk.cell h1 10 rfl
  have c12 : W.cell? ⟨b, 12, none⟩ = some dv := Blk.cell h1 12 rfl
  have f7 := Blk.frozen h1 7
  have f10 := Blk.frozen h1 10
  have h2 : RAt ((W.setCell ⟨b, 7, none⟩ (.int .i64 (r.op.byte : Int))).setCell ⟨b, 10, none⟩ (.int .i64 8)) b { r with kind := r.op.byte, left := 8 } wv dv iv := Blk.set (Blk.set h1 7 _) 10 _
  have o2 : Only b w ((W.setCell ⟨b, 7, none⟩ (.int .i64 (r.op.byte : Int))).setCell ⟨b, 10, none⟩ (.int .i64 8)) := (o1.set 7 _).set 10 _
  obtain ⟨a, cap, hdv, hrd⟩ := HR.out.durs
  subst hdv
  clear h1 o1
  go_upto_if 43 with fail
  generalize ((W.setCell ⟨b, 7, none⟩ (.int .i64 (r.op.byte : Int))).setCell ⟨b, 10, none⟩ (.int .i64 8)) = W2 at h2 o2 ⊢
  clear c13 c7 c10 c12 f7 f10
  have HT2 : Hid (Turns F u W2) := HH.out.turns.only o2 hm
  have HR2 : Hid (Rows3 F u W2 b r.wiped r.durs r.inn wv (.slice a r.durs.length cap) iv) := HR.out.only o2
  have H2 : Hid (RAt W2 b { r with kind := r.op.byte, left := 8 } wv (.slice a r.durs.length cap) iv) := h2
  have hbl : b < W2.heap.size := Blk.lt h2
  have hdo := HH.out.ok.durs
  clear hrd h2 o2
  go_cut [2, 3] from 6 (fun v2 v3 wc => RMid F b u wc r.going)
  case first =>
    cases hds : r.durs with
    | nil =>
      rw [hds] at H2 HR2
      have HG : Hid (r.going = { r with kind := r.op.byte, left := 8, durs := [] }) := by rw [Hid]; unfold RSt.going; rw [hds]; rfl
      go_wp2_with fail
      go_meet
      case rel =>
        rw [HG.out]
        exact ⟨HT2.out, wv, _, iv, H2.out, HR2.out⟩
    | cons d D =>
      have hd1 := hdo.2 d (by rw [hds]; exact List.mem_cons_self)
      obtain ⟨q, rfl⟩ : ∃ q : Nat, d = (q : Int) := ⟨d.toNat, by omega⟩
      rw [hds] at H2 HR2
      have HG : Hid (r.going = { r with kind := r.op.byte, left := q, durs := D }) := by rw [Hid]; unfold RSt.going; rw [hds]; simp
      obtain ⟨a', cap', e1, hrd⟩ := HR2.out.durs
      simp only [Value.slice.injEq] at e1
      obtain ⟨rfl, -, rfl⟩ := e1
      obtain ⟨g, o, rfl, hcell⟩ := hrd (by simp)
      have hcp : D.length + 1 ≤ cap := HR2.out.dcap _ _ _ rfl
      have k0 : W2.cell? ⟨g, o, none⟩ = some (.int .i64 (q : Int)) := hcell 0 (by simp)
      have hgb : g ≠ b := (HR2.out.dblk g rfl (by simp)).1
      have c12 : W2.cell? ⟨b, 12, none⟩ = some (.slice (some ⟨g, o, none⟩) (D.length + 1) cap) := Blk.cell H2.out 12 rfl
      have c10 : W2.cell? ⟨b, 10, none⟩ = some (.int .i64 8) := Blk.cell H2.out 10 rfl
      have f10 := Blk.frozen H2.out 10
      have h3 : RAt (W2.setCell ⟨b, 10, none⟩ (.int .i64 (q : Int))) b { r with kind := r.op.byte, left := q } wv (.slice (some ⟨g, o, none⟩) (D.length + 1) cap) iv := Blk.set H2.out 10 _
      have o3 : Only b W2 (W2.setCell ⟨b, 10, none⟩ (.int .i64 (q : Int))) := (Only.refl b W2).set 10 _
      have r3 := HR2.out.only o3
      have t3 := HT2.out.only o3 hm
      have HC : Hid (∀ j, j < D.length + 1 → W2.cell? ⟨g, o + j, none⟩ = some (.int .i64 (((q : Int) :: D).getD j 0))) := hcell
      clear hcell hrd
      have hpos : 0 < ((q : Int) :: D).length := by simp
      go_upto_region 8 with fail
      generalize W2.setCell ⟨b, 10, none⟩ (.int .i64 (q : Int)) = W3 at h3 o3 r3 t3 ⊢
      clear c12 c10 f10 k0
      have hb3 : b < W3.heap.size := Blk.lt h3
      have c12 : W3.cell? ⟨b, 12, none⟩ = some (.slice (some ⟨g, o, none⟩) (D.length + 1) cap) := Blk.cell h3 12 rfl
      have H3 : Hid (RAt W3 b { r with kind := r.op.byte, left := q } wv (.slice (some ⟨g, o, none⟩) (D.length + 1) cap) iv) := h3
      have HR3 : Hid (Rows3 F u W3 b r.wiped ((q : Int) :: D) r.inn wv (.slice (some ⟨g, o, none⟩) (D.length + 1) cap) iv) := r3
      have HT3 : Hid (Turns F u W3) := t3
      have FIN : Hid (∀ (w' : World) (v' : Value), Below W3.heap.size W3 w' → Owns W3.heap.size w' v' D → RMid F b u (w'.setCell ⟨b, 12, none⟩ v') r.going) := fun w' v' hb ho => by
        have h1 : RAt (w'.setCell ⟨b, 12, none⟩ v') b { r with kind := r.op.byte, left := q, durs := D } wv v' iv := Blk.set (Blk.below H3.out hb) 12 _
        have o1 : Only b w' (w'.setCell ⟨b, 12, none⟩ v') := (Only.refl b w').set 12 _
        have hr1 := HR3.out.durs' hb hb3 HT3.out.size ho.reads (owns_cap ho) (owns_newer ho)
        rw [HG.out]
        exact ⟨(HT3.out.below hb).only o1 hm, wv, v', iv, h1, hr1.only o1⟩
      have FC : Hid (∀ w' : World, Below W3.heap.size W3 w' → w'.cell? ⟨b, 12, none⟩ = some (.slice (some ⟨g, o, none⟩) (D.length + 1) cap) ∧ w'.frozen? ⟨b, 12, none⟩ = false) := fun w' hb => ⟨Blk.cell (Blk.below H3.out hb) 12 rfl, Blk.frozen (Blk.below H3.out hb) 12⟩
      have hown : (W3.alloc (.cells #[] 3)).ownsRow W3.heap.size 3 1 (.slice (some ⟨W3.heap.size, 0, none⟩) 0 0) 0 [] := World.ownsRow_lit (base := W3.heap.size) (e := 3) (size := 1) W3 #[] 0 (Nat.le_refl _) (by unfold maxLen; omega) rfl
      have hdl : D.length ≤ 100000000 := by have := hdo.1; rw [hds] at this; simp at this; omega
      have hnews : ∀ j y, (D.map (Value.int .i64))[j]? = some y → (W3.alloc (.cells #[] 3)).cell? ((⟨g, o + 1, none⟩ : Addr).add j) = some y := fun j y hy => by
        have hj : j < D.length := by
          rcases Nat.lt_or_ge j D.length with h | h
          · exact h
          · rw [List.getElem?_eq_none (by rw [List.length_map]; omega)] at hy; cases hy
        have h1 := HC.out (j + 1) (by omega)
        have h2 : W3.cell? ⟨g, o + (j + 1), none⟩ = some (.int .i64 (((q : Int) :: D).getD (j + 1) 0)) := by rw [o3.cell (by exact cell_lt h1) hgb]; exact h1
        have e : (⟨g, o + 1, none⟩ : Addr).add j = ⟨g, o + (j + 1), none⟩ := by rw [Addr.add_mid]; congr 1; omega
        rw [e, ((Below.refl _ W3).alloc (Nat.le_refl _) _).cell (by exact cell_lt h2), h2, ← hy, List.getElem?_map, List.getD_cons_succ, List.getD_eq_getElem?_getD, List.getElem?_eq_getElem hj]
        rfl
      clear h3 r3 t3 HC
      by_cases hcap : cap = 1
      · have hL : D = [] := List.length_eq_zero_iff.1 (by omega)
        subst hL
        subst hcap
        obtain ⟨q12, z12⟩ := FC.out _ (below_new W3 (.cells #[] 3))
        have FF : Hid (RMid F b u ((W3.alloc (.cells #[] 3)).setCell ⟨b, 12, none⟩ (.slice (some ⟨W3.heap.size, 0, none⟩) 0 0)) r.going) := FIN.out _ _ (below_new W3 _) hown
        rw [World.setCell_alloc_past _ _ _ _ hb3] at FF
        clear hown hnews
        go_wp2_with fail
        go_meet
        case rel => exact FF.out
      · have hcap1 : ¬ (cap - 1 = 0) := by omega
        go_wp2_with (at_builtin; refine wpList_append_own _ rfl _ _ 23 rfl W3.heap.size 3 i0 (.int .i64 0) 1 8 Tryz.underlying23 hi0 hz0 hz1 hz2 rfl (by decide) _ _ _ rfl hown ⟨g, o + 1, none⟩ D.length (cap - 1) (D.map (Value.int .i64)) rfl (by rw [List.length_map]; omega) hnews (ints_oneCell _ _) (by unfold maxLen; omega) (by omega) (by simp) ?_)
        intro v' w' p1 p2 p3
        have HO : Owns W3.heap.size w' v' D := by rw [Owns]; simpa using p1
        have HB : Below W3.heap.size W3 w' := ((Below.refl _ _).alloc (Nat.le_refl _) _).grown p2 (by simp) fun k hk => by
          have : W3.heap.size = k := by simpa [Value.ownBlock] using hk
          omega
        obtain ⟨q12, z12⟩ := FC.out w' HB
        have FF : Hid (RMid F b u (w'.setCell ⟨b, 12, none⟩ v') r.going) := FIN.out w' v' HB HO
        obtain ⟨a', c', rfl, -⟩ := HO.reads
        clear p1 p2 p3 hnews hown HO
        go_wp2_with fail
        go_meet
        case rel => exact FF.out
  case rest =>
    obtain ⟨t4, wv4, dv4, iv4, h4, r4⟩ := hcut
    clear HT2 HR2 H2 hbl hdo HR HA
    have had := HH.out.ok.adr
    have hwl := HH.out.ok.wiped
    have hil := HH.out.ok.count
    have hin := HH.out.ok.inn
    obtain ⟨R, HRR⟩ := hid_is r.going
    rw [HRR.out] at h4 r4
    have Hf : Hid (R.op.byte = r.op.byte ∧ R.adr = r.adr ∧ R.wiped = r.wiped ∧ R.inn = r.inn ∧ R.kind = r.op.byte) := by rw [← HRR.out]; exact ⟨rfl, rfl, rfl, rfl, rfl⟩
    have c24 : wc.cell? ⟨b, 24, none⟩ = some (.int .i64 (r.adr : Int)) := by rw [← Hf.out.2.1]; exact Blk.cell h4 24 rfl
    have c8 : wc.cell? ⟨b, 8, none⟩ = some (.int .i64 (R.wat : Int)) := Blk.cell h4 8 rfl
    have f8 := Blk.frozen h4 8
    have h5 : RAt (wc.setCell ⟨b, 8, none⟩ (.int .i64 (r.adr : Int))) b { R with wat := r.adr } wv4 dv4 iv4 := Blk.set h4 8 _
    have o5 : Only b wc (wc.setCell ⟨b, 8, none⟩ (.int .i64 (r.adr : Int))) := (Only.refl b wc).set 8 _
    have r5 := r4.only o5
    have t5 := t4.only o5 hm
    clear h4 r4 t4
    go_upto_region 10 with fail
    generalize wc.setCell ⟨b, 8, none⟩ (.int .i64 (r.adr : Int)) = W5 at h5 o5 r5 t5 ⊢
    clear c24 c8 f8
    have c7 : W5.cell? ⟨b, 7, none⟩ = some (.int .i64 (r.op.byte : Int)) := by rw [← Hf.out.2.2.2.2]; exact Blk.cell h5 7 rfl
    have c24 : W5.cell? ⟨b, 24, none⟩ = some (.int .i64 (r.adr : Int)) := by rw [← Hf.out.2.1]; exact Blk.cell h5 24 rfl
    have H5 : Hid (RAt W5 b { R with wat := r.adr } wv4 dv4 iv4) := h5
    have R5 : Hid (Rows3 F u W5 b r.wiped R.durs r.inn wv4 dv4 iv4) := by rw [← Hf.out.2.2.1, ← Hf.out.2.2.2.1]; exact r5
    have T5 : Hid (Turns F u W5) := t5
    clear r5 t5 o5
    rcases hby with hby | hby
    · rw [hby] at c7
      have HE : Hid (r.begin = { R with wat := r.adr / 32 * 32, wdata := pageR r.adr r.inn }) := by rw [Hid, HB2.out hby, HRR.out]
      obtain ⟨T, HT⟩ := hid_is (full 32)
      have HFu : Hid (∀ v : World, Calls Tryz.prog 48 #[.int .i64 32] v fun e w' => e = .returned (.string T) ∧ Below v.heap.size v w') := fun v => by rw [← HT.out]; exact full_32 v
      have hTs : T.size = 32 := by rw [← HT.out]; exact tab_size _ _
      obtain ⟨ai, ci, ei, hri⟩ := R5.out.inn.reads
      rw [nsL_length] at ei hri
      subst ei
      have hbl : b < W5.heap.size := Blk.lt h5
      have HRI : Hid (0 < r.inn.length → ∃ g o, ai = some ⟨g, o, none⟩ ∧ ∀ j, j < r.inn.length → W5.cell? ⟨g, o + j, none⟩ = some (.int .i64 ((nsL r.inn).getD j 0))) := hri
      clear hri
      go_wp2_with fail
      refine (HFu.out _).mono ?_
      rintro e w6 ⟨rfl, b6⟩
      obtain ⟨W7, cap, hcv, hcap, hby7, hbel, hsz⟩ := to_bytes_of w6 T 32 hTs
      have B7 : Hid (Below W5.heap.size W5 W7) := below_then b6 hbel
      have hg6 : W5.heap.size ≤ w6.heap.size := b6.size
      generalize w6.heap.size = gb at hcv hby7 hbel hsz hg6 ⊢
      clear b6 hbel
      go_wp2_with fail
      go_loopw [5] (fun i wr => ∃ k : Nat, k ≤ r.inn.length ∧ i = .int .i64 k ∧ Bytes wr gb 32 (pageAt r.adr r.inn k) ∧ Hid (Below W5.heap.size W5 wr)) (fun i _ => r.inn.length - (intOf i).toNat)
      case atStart => exact ⟨0, Nat.zero_le _, rfl, hby7.congr (fun j hj => by rw [← HT.out]; exact ub_tab _ _ _ hj), B7⟩
      case round =>
        obtain ⟨k, hk, rfl, hbb, HBL⟩ := hrel
        clear hcv hby7 B7 c7 c24
        have h8 := Blk.below H5.out HBL.out
        have c27 : wr.cell? ⟨b, 27, none⟩ = some (.slice ai r.inn.length ci) := Blk.cell h8 27 rfl
        have c24 : wr.cell? ⟨b, 24, none⟩ = some (.int .i64 (r.adr : Int)) := by rw [← Hf.out.2.1]; exact Blk.cell h8 24 rfl
        by_cases hlt : k < r.inn.length
        · obtain ⟨gi, oi, rfl, hci⟩ := HRI.out (by omega)
          obtain ⟨y, Hy⟩ := hid_is (r.inn.getD k 0)
          have cy : wr.cell? ⟨gi, oi + k, none⟩ = some (.int .i64 (y : Int)) := by
            have h1 := hci k hlt
            rw [HBL.out.cell (by exact cell_lt h1), h1, ← Hy.out]
            congr 2
            rw [nsL, List.getD_eq_getElem?_getD, List.getElem?_map, List.getD_eq_getElem?_getD, List.getElem?_eq_getElem hlt]; rfl
          have hy : y < 256 := by rw [← Hy.out, List.getD_eq_getElem?_getD, List.getElem?_eq_getElem hlt]; exact hin _ (List.getElem_mem hlt)
          obtain ⟨p, hp⟩ : ∃ p : Nat, (r.adr + k) % 32 = p := ⟨_, rfl⟩
          have hp32 : p < 32 := by omega
          have hpi : ((r.adr : Int) + (k : Int)) % 32 = (p : Int) := by omega
          have HPn : Hid (p = (r.adr + k) % 32) := hp.symm
          have hcb := (hbb p hp32).1
          have hfb := (hbb p hp32).2
          obtain ⟨z, Hz⟩ := hid_is (pageAt r.adr r.inn k p)
          rw [Hz.out] at hcb
          have HBB : Hid (Bytes wr gb 32 (pageAt r.adr r.inn k)) := hbb
          have hk100 : k ≤ 1000000 := by omega
          clear hbb hci h8 hp
          go_wp2_with fail
          go_region
          go_wp2
          go_roundw
          case rel =>
            refine ⟨k + 1, by omega, by go_num, ?_, (HBL.out.setCell (by exact hg6) _).drew⟩
            have hyb : (y : Int) = ((UInt8.ofNat y).toNat : Int) := by rw [← byte_of]; omega
            refine ((HBB.out.set_is p hp32 hyb).drew).congr (fun j _ => ?_)
            show (if j = p then _ else _) = pageAt r.adr r.inn (k + 1) j
            rw [page_succ, ← HPn.out, Hy.out]
          case measure => simp [intOf]; omega
        · have hkl : decide ((k : Int) < (r.inn.length : Int)) = false := decide_eq_false (by omega)
          obtain rfl : r.inn.length = k := by omega
          have c8 : wr.cell? ⟨b, 8, none⟩ = some (.int .i64 (r.adr : Int)) := Blk.cell h8 8 rfl
          have f8 := Blk.frozen h8 8
          have h9 : RAt (wr.setCell ⟨b, 8, none⟩ (.int .i64 ((r.adr / 32 * 32 : Nat) : Int))) b { R with wat := r.adr / 32 * 32 } wv4 dv4 (.slice ai r.inn.length ci) := Blk.set h8 8 _
          have o9 : Only b wr (wr.setCell ⟨b, 8, none⟩ (.int .i64 ((r.adr / 32 * 32 : Nat) : Int))) := (Only.refl b wr).set 8 _
          have hgl : gb < wr.heap.size := by
            have h0 := (hbb 0 (by decide)).1
            exact cell_lt h0
          have hb9 := bytes_only hbb o9 (by omega) hgl
          have hr9 := ((R5.out.only (Only.of_below HBL.out)).only o9)
          have ht9 := (T5.out.below HBL.out).only o9 hm
          obtain ⟨mm, hmm⟩ : ∃ mm : Nat, r.adr / 32 * 32 = mm := ⟨_, rfl⟩
          have hmi : (r.adr : Int) / 32 * 32 = (mm : Int) := by omega
          rw [hmm] at h9 o9 hb9 hr9 ht9 HE
          have FIN : Hid (RAt (wr.setCell ⟨b, 8, none⟩ (.int .i64 (mm : Int))) b { R with wat := mm } wv4 dv4 (.slice ai r.inn.length ci) ∧ Rows3 F u (wr.setCell ⟨b, 8, none⟩ (.int .i64 (mm : Int))) b r.wiped R.durs r.inn wv4 dv4 (.slice ai r.inn.length ci) ∧ Turns F u (wr.setCell ⟨b, 8, none⟩ (.int .i64 (mm : Int)))) := ⟨h9, hr9, ht9⟩
          clear hbb hr9 ht9 hmm
          go_upto_region 18 with fail
          generalize wr.setCell ⟨b, 8, none⟩ (.int .i64 (mm : Int)) = W9 at h9 hb9 FIN o9 ⊢
          clear c8 f8 c27 c24 o9
          obtain ⟨S, hbk, HS⟩ := hb9.back_is (f' := pageAt r.adr r.inn r.inn.length) (fun j hj => rfl) cap
          have c9 : W9.cell? ⟨b, 9, none⟩ = some (.string R.wdata) := Blk.cell h9 9 rfl
          have f9 := Blk.frozen h9 9
          clear h9 hb9 h8
          go_wp2
          first | go_end0 | refine bodyPost_ret (results_none rfl _ _ _) rfl ?_
          refine ⟨rfl, ?_⟩
          rw [HE.out]
          have o10 : Only b W9 (W9.setCell ⟨b, 9, none⟩ (.string S)) := (Only.refl b W9).set 9 _
          refine ⟨FIN.out.2.2.only o10 hm, wv4, dv4, .slice ai r.inn.length ci, ?_, ?_⟩
          · have hS : S = pageR r.adr r.inn := HS.out
            rw [← hS]
            exact Blk.set FIN.out.1 9 _
          · show Rows3 F u _ b R.wiped R.durs R.inn wv4 dv4 _
            rw [Hf.out.2.2.1, Hf.out.2.2.2.1]
            exact FIN.out.2.1.only o10
    · rw [hby] at c7
      obtain ⟨q, hq⟩ : ∃ q : Nat, r.adr / 512 = q := ⟨_, rfl⟩
      have hq8 : q < 8 := by omega
      obtain ⟨y, Hy⟩ := hid_is (r.wiped.getD q 0)
      have HE : Hid (r.begin = { R with wat := r.adr, wiped := r.wiped.set q (wrap64 (y + 1)) }) := by rw [Hid, HB32.out hby, HRR.out, hq, Hy.out]
      obtain ⟨gw, ew, hgw, how, hne, -, -⟩ := R5.out.wiped
      have hqi : ((r.adr : Int) / 512) = (q : Int) := by omega
      have hqt : ((r.adr : Int).tdiv 512) = (q : Int) := by rw [Int.tdiv_eq_ediv_of_nonneg (by omega)]; omega
      have hqw : IntKind.i64.wrap (q : Int) = (q : Int) := IntWalk.i64_in _ (by omega)
      have hq0 : (0 : Int) ≤ q := by omega
      have hq88 : (q : Int) < 8 := by omega
      have c3 : W5.cell? ⟨b, 3, none⟩ = some (.slice (some ⟨gw, 0, none⟩) 8 8) := by rw [← ew]; exact Blk.cell h5 3 rfl
      have cw : W5.cell? ⟨gw, q, none⟩ = some (.int .i64 y) := by
        rw [Blk.cell hgw q (v := .int .i64 (r.wiped.getD q 0)) (by rw [List.getElem?_map, List.getD_eq_getElem?_getD, List.getElem?_eq_getElem (by omega)]; rfl), Hy.out]
      have fw := Blk.frozen hgw q
      have HFIN : Hid (∀ z : Int, z = wrap64 (y + 1) → RMid F b u ((W5.setCell ⟨gw, q, none⟩ (.int .i64 z)).drew) r.begin) := fun z hz => by
        subst hz
        rw [HE.out]
        exact ⟨(T5.out.set how q _).drew, wv4, dv4, iv4, Blk.drew (Blk.other H5.out gw q _ hne), by show Rows3 F u _ b (r.wiped.set q (wrap64 (y + 1))) R.durs R.inn wv4 dv4 iv4; rw [Hf.out.2.2.2.1]; exact (R5.out.wiped' ew _).only ((Only.refl b _).drew)⟩
      clear h5 hgw hq had hil hin hwl ew
      go_wp2_with fail
      go_region
      go_wp2
      first | go_end0 | refine bodyPost_ret (results_none rfl _ _ _) rfl ?_
      exact ⟨rfl, HFIN.out _ rfl⟩

theorem rbegin_run (F : Nat → Prop) (n b : Nat) (u w : World) (r : RSt) (h : RRun F n b u w r) (hby : r.op.byte = 2 ∨ r.op.byte = 32) (hn : n < 1000000) :
    Calls Tryz.prog 66 #[.pointer (some ⟨b, 0, none⟩)] w fun e w' => e = .returned (.tuple #[]) ∧ RMid F b u w' r.begin := by
  obtain ⟨wv, dv, iv, hA, hR⟩ := h.lies
  cases he : r.en
  · rw [show r.begin = r by unfold RSt.begin; rw [if_pos he]]
    exact (rbegin_off b r wv dv iv w hA he).mono fun e w' ⟨h1, h2⟩ => by subst h2; exact ⟨h1, h.turns, wv, dv, iv, hA, hR⟩
  · cases hp : (r.prot && decide (r.adr < 2048))
    · exact rbegin_on F n b u w r h he hp hby hn
    · rw [show r.begin = { r with en := false } by unfold RSt.begin; rw [if_neg (by rw [he]; decide), if_pos hp]]
      exact (rbegin_prot b r wv dv iv w hA he hp).mono fun e w' ⟨h1, h2, h3⟩ => ⟨h1, h.turns.only h3 h.mine, wv, dv, iv, h2, hR.only h3⟩
end Go.Proofs.YtlemmabgbaleiaaGreat
