/-
  The controller drives a row of phases, and what ends a read that goes on. Conditions: it lies in memory as told.
-/
import Derived.Test.YtjhjghakfedeeaaGreatCtl
namespace Go.Proofs.YtjhjghakfedeeaaGreat
open Go.RowKit Plain
set_option linter.unusedVariables false

/-- The blocks that a controller turns: its own and its chip's. -/
def F2 (kb bp : Nat) (g : Nat) : Prop := g = kb ∨ g = bp
/-- A controller and its chip in memory. -/
structure KBody (n kb bp : Nat) (w : World) (k : K) (R1 : List Int) (f1 : Nat) (R2 : List Int) (f2 : Nat) (lv ds : Value) : Prop where
  lay : KLay w kb bp k R1 f1 R2 f2 lv
  chip : At w bp k.s ds
  durs : Durs w bp ds k.s.durs
  dblk : ∀ g, ds.ownBlock = some g → 0 < k.s.durs.length → g ≠ kb
  last : k.made = true → PIn (fun g => g ≠ kb ∧ g ≠ bp) w lv lastP
  ok : k.s.Ok n
  ne : kb ≠ bp
  sel : k.lost = false → k.s.sel = false
  left : k.bounded = true → 0 ≤ k.left ∧ k.left ≤ 9223372036854775807
  clocks : k.clocks ≤ n
def KAt (n kb bp : Nat) (w : World) (k : K) : Prop := ∃ R1 f1 R2 f2 lv ds, KBody n kb bp w k R1 f1 R2 f2 lv ds
/-- The same, its rings told. -/
def KRg (n kb bp : Nat) (R1 : List Int) (f1 : Nat) (R2 : List Int) (f2 : Nat) (w : World) (k : K) : Prop := ∃ lv ds, KBody n kb bp w k R1 f1 R2 f2 lv ds
theorem KRg.at {n kb bp : Nat} {R1 : List Int} {f1 : Nat} {R2 : List Int} {f2 : Nat} {w : World} {k : K} (h : KRg n kb bp R1 f1 R2 f2 w k) : KAt n kb bp w k := by
  obtain ⟨lv, ds, h⟩ := h
  exact ⟨R1, f1, R2, f2, lv, ds, h⟩

theorem durs_other {w w' : World} {b c : Nat} {ds : Value} {D : List Int} (h : Durs w b ds D) (hd : ∀ g, ds.ownBlock = some g → 0 < D.length → g ≠ c) (k : Only c w w') : Durs w' b ds D := by
  refine ⟨?_, h.2⟩
  have hlt := rd_blk h.1
  obtain ⟨a, cap, rfl, hr⟩ := h.1
  refine ⟨a, cap, rfl, fun h0 => ?_⟩
  obtain ⟨g, o, rfl, hc⟩ := hr h0
  refine ⟨g, o, rfl, fun j hj => ?_⟩
  rw [World.cell?_of_block (w := w) (k.block g (hlt g rfl h0) (hd g rfl h0))]
  exact hc j hj
theorem at_other {w w' : World} {b c : Nat} {s : St} {ds : Value} (h : At w b s ds) (hb : b ≠ c) (k : Only c w w') : At w' b s ds := by
  have hl := Blk.lt h
  unfold At Blk at h ⊢
  rw [k.block b hl hb]; exact h
theorem F2.only1 {kb bp : Nat} {w w' : World} (h : Only kb w w') : Turns (F2 kb bp) w w' := ⟨h.os, h.tape, h.output, h.size, fun i hi hn => h.block i hi (fun e => hn (.inl e))⟩
theorem F2.only2 {kb bp : Nat} {w w' : World} (h : Only bp w w') : Turns (F2 kb bp) w w' := ⟨h.os, h.tape, h.output, h.size, fun i hi hn => h.block i hi (fun e => hn (.inr e))⟩
theorem PIn.turns {kb bp : Nat} {w w' : World} {v : Value} {ps : List Ph} (h : PIn (fun g => g ≠ kb ∧ g ≠ bp) w v ps) (t : Turns (F2 kb bp) w w') : PIn (fun g => g ≠ kb ∧ g ≠ bp) w' v ps :=
  h.stays fun g hq hl => t.block g hl (fun hf => by rcases hf with e | e; exact hq.1 e; exact hq.2 e)
theorem RIn.turns {kb bp : Nat} {w w' : World} {v : Value} {L : List Int} (h : RIn (fun g => g ≠ kb ∧ g ≠ bp) w v L) (t : Turns (F2 kb bp) w w') : RIn (fun g => g ≠ kb ∧ g ≠ bp) w' v L :=
  h.stays fun g hq hl => t.block g hl (fun hf => by rcases hf with e | e; exact hq.1 e; exact hq.2 e)
theorem KBody.below {n kb bp : Nat} {w w' : World} {k : K} {R1 : List Int} {f1 : Nat} {R2 : List Int} {f2 : Nat} {lv ds : Value} (h : KBody n kb bp w k R1 f1 R2 f2 lv ds) (b : Below w.heap.size w w') : KBody n kb bp w' k R1 f1 R2 f2 lv ds :=
  ⟨h.lay.below b, Blk.below h.chip b, h.durs.only (Only.of_below b), h.dblk, fun hm => (h.last hm).below b, h.ok, h.ne, h.sel, h.left, h.clocks⟩
theorem KAt.below {n kb bp : Nat} {w w' : World} {k : K} (h : KAt n kb bp w k) (b : Below w.heap.size w w') : KAt n kb bp w' k := by
  obtain ⟨R1, f1, R2, f2, lv, ds, h⟩ := h
  exact ⟨R1, f1, R2, f2, lv, ds, h.below b⟩
/-- The controller's own block turned, so that it lies as k'. -/
theorem KBody.turn {n kb bp : Nat} {w w' : World} {k k' : K} {R1 R1' : List Int} {f1 f1' : Nat} {R2 R2' : List Int} {f2 f2' : Nat} {lv lv' ds : Value} (h : KBody n kb bp w k R1 f1 R2 f2 lv ds) (o : Only kb w w') (l : KLay w' kb bp k' R1' f1' R2' f2' lv') (hs : k'.s = k.s) (hm : k'.made = true → PIn (fun g => g ≠ kb ∧ g ≠ bp) w' lv' lastP) (hl : k'.lost = k.lost) (hb : k'.bounded = true → 0 ≤ k'.left ∧ k'.left ≤ 9223372036854775807) (hc : k'.clocks ≤ n) : KBody n kb bp w' k' R1' f1' R2' f2' lv' ds :=
  ⟨l, by rw [hs]; exact at_other h.chip h.ne.symm o, by rw [hs]; exact durs_other h.durs h.dblk o, by rw [hs]; exact h.dblk, hm, by rw [hs]; exact h.ok, h.ne, by rw [hs, hl]; exact h.sel, hb, hc⟩
theorem drv_durs (s : St) (ps : List Ph) (m : Int) : (drvS s ps m).durs.length ≤ s.durs.length := by
  unfold drvS whB
  split
  · refine Nat.le_trans (deselect_len _) ?_
    rw [ran_durs s ps _ (Nat.le_refl _)]; exact Nat.le_refl _
  · rename_i hw
    simp at hw
    rw [ran_durs s ps _ (by omega)]; exact Nat.le_refl _
theorem ran_sel' (s : St) (ps : List Ph) (j : Nat) : (ranS s ps j).sel = true := by unfold ranS; rw [run_sel]; exact select_sel s
theorem drv_sel (s : St) (ps : List Ph) (m : Int) (hw : whB ps m = true) : (drvS s ps m).sel = false := by
  unfold drvS
  rw [if_pos hw]
  exact say_sel s ((insR ps).take (nR ps))
theorem endN_most (k : K) (ps : List Ph) (h : k.bounded = true → 0 ≤ k.left) : k.bounded = true → ((endN ps k.most : Nat) : Int) ≤ k.left := by
  intro hb
  have h0 := h hb
  unfold endN whB K.most
  rw [if_pos hb]
  split
  · rename_i hw; simp at hw; omega
  · omega

/-- What layer 10's Drive leaves. -/
def DroveTo (kb bp : Nat) (k : K) (ps : List Ph) (ds : Value) (w w' : World) (u : Value) : Prop :=
  Owns w.heap.size w' u (drvL k.s ps k.most) ∧ (∃ ds', At w' bp (drvS k.s ps k.most) ds' ∧ Durs w' bp ds' (drvS k.s ps k.most).durs ∧ ds'.ownBlock = ds.ownBlock) ∧ Only bp w w'
theorem DroveTo.start {kb bp : Nat} {k : K} {ps : List Ph} {ds u : Value} {v w w' : World} (h : DroveTo kb bp k ps ds v w' u) (hv : w.heap.size = v.heap.size) (o : Only bp w v) : DroveTo kb bp k ps ds w w' u := by
  obtain ⟨h1, h2, h3⟩ := h
  exact ⟨by rw [hv]; exact h1, h2, o.trans h3⟩

set_option maxRecDepth 100000 in
set_option maxHeartbeats 4000000 in
theorem cdrive_any (n kb bp : Nat) (k : K) (R1 : List Int) (f1 : Nat) (R2 : List Int) (f2 : Nat) (lv ds v : Value) (ps : List Ph) (w : World) (B : KBody n kb bp w k R1 f1 R2 f2 lv ds) (hl : k.lost = false) (hv : PIn (fun g => g ≠ kb ∧ g ≠ bp) w v ps) (hp : PFit ps) (hok : okR ps = true) (hE : endN ps k.most ≤ 1000000000000) (hn : n ≤ 1000000000000000) :
    Calls Tryz.prog 77 #[.pointer (some ⟨kb, 0, none⟩), v] w fun e w' => ∃ u, e = .returned (.tuple #[u, .int .i64 (k.drvE ps)]) ∧ Owns w.heap.size w' u (k.drvV ps) ∧ KRg (n + endN ps k.most) kb bp R1 f1 R2 f2 w' (k.drv ps) ∧ Turns (F2 kb bp) w w' := by
  have c0 : w.cell? ⟨kb, 0, none⟩ = some (.pointer (some ⟨bp, 0, none⟩)) := B.lay.head 0 (by decide) rfl
  have hend := endN_most k ps (fun hb => (B.left hb).1)
  have HB : Hid (KBody n kb bp w k R1 f1 R2 f2 lv ds) := B
  have HEnd : Hid (k.bounded = true → ((endN ps k.most : Nat) : Int) ≤ k.left) := hend
  have HL : Hid (k.lost = false) := hl
  have HOk : Hid ((drvS k.s ps k.most).Ok (n + endN ps k.most)) := drv_ok B.ok ps k.most
  have HNN : Hid (n ≤ 1000000000000000) := hn
  have HMall : Hid (∀ x : World, Below w.heap.size w x → Calls Tryz.prog 119 #[.pointer (some ⟨kb, 45, none⟩)] x fun e w' => e = .returned (.int .i64 k.most) ∧ w' = x) := fun x hx => most_q (B.below hx).lay
  have HDall : Hid (∀ x : World, Below w.heap.size w x → x.heap.size = w.heap.size → Calls Tryz.prog 17 #[.pointer (some ⟨bp, 0, none⟩), v, .int .i64 k.most] x fun e w' => ∃ u, e = .returned (.tuple #[u, .int .i64 (endN ps k.most : Nat), .bool (whB ps k.most), .int .i64 0]) ∧ DroveTo kb bp k ps ds w w' u) := fun x hx hs => by
    have B' := B.below hx
    refine (drive_yes n bp k.s ds v ps k.most x B'.chip B'.durs B'.ok (B'.sel hl) ((hv.below hx).mono fun g hg hlt => ⟨hlt, hg.2⟩) hp hok hE hn).mono ?_
    rintro e w' ⟨u, rfl, h1, h2, h3⟩
    exact ⟨u, rfl, DroveTo.start ⟨h1, h2, h3⟩ hs.symm (Only.of_below hx)⟩
  obtain ⟨E, hEE⟩ : ∃ E, endN ps k.most = E := ⟨_, rfl⟩
  have HE : Hid (endN ps k.most = E) := hEE
  obtain ⟨m, hm⟩ : ∃ m, k.most = m := ⟨_, rfl⟩
  obtain ⟨W, hW⟩ : ∃ W, whB ps k.most = W := ⟨_, rfl⟩
  have HW : Hid (whB ps k.most = W) := hW
  unfold K.drvE K.drvV
  rw [hEE, hW] at HDall ⊢
  rw [hEE] at hE HEnd HOk
  rw [hm] at HMall HDall
  clear B hv hp hok hl hend hm hW hEE hn
  go_enter Tryz.func77, Tryz.ntmps77
  go_upto_region 1 with fail
  have HM1 : Hid (Calls _ _ _ _ _) := HMall.out w.drew (Below.refl w.heap.size w).drew
  have HD1 : Hid (Calls _ _ _ _ _) := HDall.out w.drew (Below.refl w.heap.size w).drew rfl
  go_region_with (first | (go_at_call 119; refine HM1.out.mono ?_; rintro e w1 ⟨rfl, rfl⟩) | (go_at_call 17; refine HD1.out.mono ?_; rintro e wx ⟨u, rfl, HDr⟩))
  all_goals
    obtain ⟨hu, ⟨ds', a1, a2, a3⟩, o2⟩ := id HDr
    have HU2 : Hid (Owns w.heap.size wx u (drvL k.s ps k.most)) := hu
    have HKb : Hid (kb < w.heap.size) := HB.out.lay.lt
    have L2 : Hid (KLay wx kb bp { k with s := drvS k.s ps k.most } R1 f1 R2 f2 lv) := (HB.out.lay.withS _).same (o2.block kb HKb.out HB.out.ne)
    have A2 : Hid (At wx bp (drvS k.s ps k.most) ds') := a1
    have D2 : Hid (Durs wx bp ds' (drvS k.s ps k.most).durs) := a2
    have DB : Hid (∀ g, ds'.ownBlock = some g → 0 < (drvS k.s ps k.most).durs.length → g ≠ kb) := fun g hg h0 => HB.out.dblk g (a3 ▸ hg) (Nat.lt_of_lt_of_le h0 (drv_durs _ _ _))
    have T2 : Hid (Turns (F2 kb bp) w wx) := F2.only2 o2
    obtain ⟨ua, uc, rfl⟩ := own_slice hu
    clear hu a1 a2 a3 o2 HMall HDall HDr c0 HM1 HD1
    go_wp2_with fail
    refine (count_any L2.out E (by have := HB.out.clocks; have := HNN.out; show k.clocks ≤ _; omega) hE (fun hb => ⟨HEnd.out hb, (HB.out.left hb).2⟩)).mono ?_
    rintro e w3 ⟨rfl, l3, o3⟩
    have L3 : Hid (KLay w3 kb bp (({ k with s := drvS k.s ps k.most } : K).counted E) R1 f1 R2 f2 lv) := l3
    have O3 : Hid (Only kb wx w3) := o3
    have T3 : Hid (Turns (F2 kb bp) w w3) := T2.out.trans (F2.only1 o3)
    have U3 : Hid (Owns w.heap.size w3 (.slice ua (drvL k.s ps k.most).length uc) (drvL k.s ps k.most)) := owns_only HU2 o3 HKb.out
    have hleft : k.bounded = true → 0 ≤ k.left - (E : Int) ∧ k.left - (E : Int) ≤ 9223372036854775807 := fun hb => by
      have := HEnd.out hb; have := HB.out.left hb; omega
    have HLeft : Hid (k.bounded = true → 0 ≤ k.left - (E : Int) ∧ k.left - (E : Int) ≤ 9223372036854775807) := hleft
    have HCl : Hid (k.clocks + E ≤ n + E) := Nat.add_le_add_right HB.out.clocks _
    have hlv : ∀ w', Turns (F2 kb bp) w w' → k.made = true → PIn (fun g => g ≠ kb ∧ g ≠ bp) w' lv lastP := fun w' t hm => (HB.out.last hm).turns t
    have HLv : Hid (∀ w', Turns (F2 kb bp) w w' → k.made = true → PIn (fun g => g ≠ kb ∧ g ≠ bp) w' lv lastP) := hlv
    have f48 := L3.out.frozen 48
    have c48 : w3.cell? ⟨kb, 48, none⟩ = some (.bool k.lost) := L3.out.tail 8 rfl
    rw [HL.out] at c48
    clear hleft hlv l3 o3 HU2 L2 T2 HEnd
    cases W
    · have L4 : Hid (KLay (w3.setCell ⟨kb, 48, none⟩ (.bool true)) kb bp (k.drv ps) R1 f1 R2 f2 lv) := by
        refine L3.out.setTail 8 (.bool true) _ lv ?_ rfl rfl rfl
        unfold K.drv K.counted
        rw [HW.out, HE.out]
        rfl
      have O4 : Hid (Only kb wx (w3.setCell ⟨kb, 48, none⟩ (.bool true))) := O3.out.set 48 _
      have T4 : Hid (Turns (F2 kb bp) w (w3.setCell ⟨kb, 48, none⟩ (.bool true))) := T3.out.trans (F2.only1 ((Only.refl kb w3).set 48 _))
      go_wp2_with fail
      refine bodyPost_ret (v := .tuple #[.slice none 0 0, .int .i64 1101]) (by simp [results, Tryz.results77, go_sem]) rfl ⟨_, rfl, World.ownsRow_nil _ _ _ _, ⟨lv, ds', L4.out, ?_, ?_, ?_, ?_, ?_, HB.out.ne, ?_, ?_, ?_⟩, T4.out⟩
      · exact at_other A2.out HB.out.ne.symm O4.out
      · exact durs_other D2.out DB.out O4.out
      · exact DB.out
      · exact HLv.out _ T4.out
      · exact HOk.out
      · unfold K.drv; rw [HW.out]; intro h; cases h
      · unfold K.drv; rw [HE.out]; dsimp only; intro hb; rw [if_pos hb]; exact HLeft.out hb
      · unfold K.drv; rw [HE.out]; exact HCl.out
    · have hkd : Hid (k.drv ps = ({ k with s := drvS k.s ps k.most } : K).counted E) := by
        unfold Hid K.drv K.counted
        rw [HW.out, HE.out, HL.out]
        rfl
      have L4 : Hid (KLay w3 kb bp (k.drv ps) R1 f1 R2 f2 lv) := by rw [hkd.out]; exact L3.out
      go_wp2_with fail
      refine bodyPost_ret (v := .tuple #[.slice ua (drvL k.s ps k.most).length uc, .int .i64 0]) (by simp [results, Tryz.results77, go_sem]) rfl ⟨_, rfl, U3.out, ⟨lv, ds', L4.out, ?_, ?_, ?_, ?_, ?_, HB.out.ne, ?_, ?_, ?_⟩, T3.out⟩
      · exact at_other A2.out HB.out.ne.symm O3.out
      · exact durs_other D2.out DB.out O3.out
      · exact DB.out
      · exact HLv.out _ T3.out
      · exact HOk.out
      · intro _; exact drv_sel _ _ _ HW.out
      · unfold K.drv; rw [HE.out]; dsimp only; intro hb; rw [if_pos hb]; exact HLeft.out hb
      · unfold K.drv; rw [HE.out]; exact HCl.out
end Go.Proofs.YtjhjghakfedeeaaGreat
