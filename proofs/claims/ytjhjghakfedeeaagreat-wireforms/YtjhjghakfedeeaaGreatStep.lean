/-
  What goes onto the lanes: the program's call. Conditions: those of its statement. What the chip said is taken into the byte that comes: the program's call. Conditions: fewer bytes than memory bears. A clock ends: the program's call. Conditions: fewer bytes than memory bears.
-/
import Derived.Test.YtjhjghakfedeeaaGreatWalk
import Derived.Deep.AppendLies
/-! What goes onto the lanes: the program's call. Conditions: those of its statement. -/
section
namespace Go.Proofs.YtjhjghakfedeeaaGreat
open Go.RowKit Plain
set_option linter.unusedVariables false

set_option maxRecDepth 100000 in
set_option maxHeartbeats 4000000 in
theorem lanes_idle (Q : Nat → Prop) (B g : Nat) (k : Wk) (p : Ph) (w : World) (h : WkAt Q B w g k) (hf : k.Fine p) (hb : p.2.1.length = 0) :
    Calls Tryz.prog 59 #[.pointer (some ⟨g, 0, none⟩)] w fun e w' => e = .returned (.int .i64 15) ∧ WkAt Q B w' g k ∧ Below w.heap.size w w' := by
  have HW : Hid (WkAt Q B w g k) := h
  obtain ⟨rv, xv, dv, hg, hB, hr, hx, hd, ha⟩ := h
  rw [hf.rest] at hr
  obtain ⟨a, cap, rfl, hcap, hr⟩ := hr
  obtain ⟨gr, o, rfl, hq, hc⟩ := hr (by simp)
  obtain ⟨bv, r1, x1, x2, x3, x4⟩ := hc 0 p rfl
  obtain ⟨ba, bc, rfl, -⟩ := id r1
  obtain ⟨m, hm⟩ : ∃ m, (p :: k.rest.tail).length = m + 1 := ⟨_, rfl⟩
  rw [hm] at hcap hg
  have c0 : w.cell? ⟨g, 0, none⟩ = some (.slice (some ⟨gr, o, none⟩) (m + 1) cap) := Blk.cell hg 0 rfl
  rw [hb] at x2
  rw [Nat.zero_mul, Nat.add_zero] at x1 x2 x3 x4
  clear hc hr hm hx hd ha hg hf r1 hb
  go_enter Tryz.func59, Tryz.ntmps59
  go_wp2
  go_ret
  have b := below_new w (.cells #[.int .i64 p.1, .slice ba 0 bc, .int .i64 p.2.2.1, .int .i64 p.2.2.2] 49)
  exact ⟨rfl, HW.out.below b, b⟩

set_option maxRecDepth 100000 in
set_option maxHeartbeats 4000000 in
theorem lanes_new (Q : Nat → Prop) (B g : Nat) (k : Wk) (p : Ph) (w : World) (hQ : ∀ j, Q j → j < B) (h : WkAt Q B w g k) (hf : k.Fine p) (hb : 0 < p.2.1.length) (hz : k.gone % bcI p.1 = 0) :
    Calls Tryz.prog 59 #[.pointer (some ⟨g, 0, none⟩)] w fun e w' => e = .returned (.int .i64 (inW p k.gone)) ∧ WkAt Q B w' g (k.laned p) ∧ Below B w w' := by
  have HW : Hid (WkAt Q B w g k) := h
  obtain ⟨hl4, hlt, h512, hb0, hb1, hol, hbp⟩ := hf.byte hb
  obtain ⟨rv, xv, dv, hg, hB, hr, hx, hd, ha⟩ := h
  rw [hf.rest] at hr
  obtain ⟨a, cap, rfl, hcap, hr⟩ := hr
  obtain ⟨gr, o, rfl, hq, hc⟩ := hr (by simp)
  obtain ⟨bv, r1, x1, x2, x3, x4⟩ := hc 0 p rfl
  obtain ⟨ba, bc, rfl, hbr⟩ := id r1
  obtain ⟨gb, ob, rfl, hqb, hbc⟩ := hbr hb
  have xb := hbc _ hlt
  obtain ⟨m, hm⟩ : ∃ m, (p :: k.rest.tail).length = m + 1 := ⟨_, rfl⟩
  rw [hm] at hcap hg
  have c0 : w.cell? ⟨g, 0, none⟩ = some (.slice (some ⟨gr, o, none⟩) (m + 1) cap) := Blk.cell hg 0 rfl
  have c1 : w.cell? ⟨g, 1, none⟩ = some (.int .i64 (k.gone : Int)) := Blk.cell hg 1 rfl
  have c2 : w.cell? ⟨g, 2, none⟩ = some xv := Blk.cell hg 2 rfl
  rw [Nat.zero_mul, Nat.add_zero] at x1 x2 x3 x4
  obtain ⟨N, HN⟩ : ∃ N, Hid (N = bcI p.1) := ⟨_, rfl⟩
  obtain ⟨L, HL⟩ : ∃ L, Hid (L = p.2.1.length) := ⟨_, rfl⟩
  obtain ⟨q, HQ⟩ : ∃ q, Hid (q = k.gone / bcI p.1) := ⟨_, rfl⟩
  obtain ⟨y, HY⟩ : ∃ y, Hid (y = p.2.1.getD (k.gone / bcI p.1) 0) := ⟨_, rfl⟩
  rw [← HN.out] at hbp hz
  rw [← HL.out] at hlt x2 h512
  rw [← HQ.out] at xb hlt HY
  rw [← HY.out] at xb
  have hq9 : q ≤ 1000000000 := by omega
  have i0 : (0 : Int) < (L : Int) := by omega
  have i1 : (0 : Int) ≤ (q : Int) := by omega
  have i2 : (q : Int) < L := by omega
  have hne4 : g ≠ gb := by have := hQ gb hqb; omega
  have im : (k.gone : Int) % (N : Int) = 0 := emod_nat _ _ 0 hz
  have iq : (k.gone : Int) / (N : Int) = (q : Int) := ediv_nat _ _ _ (by rw [HQ.out, HN.out])
  have hN1 : ¬ (N = 0) := by omega
  have i3 := wrap_small q hq9
  have i4 := wrap_small' q hq9
  have HF : Hid (k.Fine p) := hf
  have hO1 : (outL y p.1).length = N := by rw [HY.out, HQ.out, HN.out]; exact hol
  have HO1 : Hid ((outL y p.1).length = N) := hO1
  have HB0 : Hid (0 < p.2.1.length) := hb
  have HZ : Hid (k.gone % N = 0) := hz
  have HGL : Hid (g < w.heap.size) := Blk.lt hg
  obtain ⟨W, hW⟩ : ∃ W, W = w.alloc (.cells #[.int .i64 p.1, .slice (some ⟨gb, ob, none⟩) L bc, .int .i64 p.2.2.1, .int .i64 p.2.2.2] 49) := ⟨_, rfl⟩
  have bW : Below w.heap.size w W := by rw [hW]; exact below_new _ _
  have f1 : W.cell? ⟨g, 1, none⟩ = some (.int .i64 (k.gone : Int)) := (bW.cell (by exact cell_lt c1)).trans c1
  have f2 : W.cell? ⟨w.heap.size, 0, none⟩ = some (.int .i64 p.1) := by rw [hW]; simp
  have f3 : W.cell? ⟨w.heap.size, 1, none⟩ = some (.slice (some ⟨gb, ob, none⟩) L bc) := by rw [hW]; simp
  have f4 : W.cell? ⟨gb, ob + q, none⟩ = some (.int .i64 y) := (bW.cell (by exact cell_lt xb)).trans xb
  have f5 : W.frozen? ⟨g, 2, none⟩ = false := (bW.frozen (by exact cell_lt c2)).trans (Blk.frozen hg 2)
  have f6 : W.cell? ⟨g, 2, none⟩ = some xv := (bW.cell (by exact cell_lt c2)).trans c2
  clear hc hr hm hx hd ha hg hf r1 hb hbr hbc hqb hq hb0 hb1 hol hlt h512 hz
  go_enter Tryz.func59, Tryz.ntmps59
  go_upto_region 4 with fail
  rw [← hW]
  clear hW c0 c1 c2 x1 x2 x3 x4 xb
  go_wp2_with fail
  refine (bc_any _ _).mono ?_
  rintro e w1 ⟨rfl, rfl⟩
  rw [← HN.out]
  go_upto_region 6 with fail
  go_region_held3 (fun z => z.cell? ⟨g, 1, none⟩ = some (.int .i64 (k.gone : Int)) ∧ z.cell? ⟨w.heap.size, 0, none⟩ = some (.int .i64 p.1) ∧ z.cell? ⟨w.heap.size, 1, none⟩ = some (.slice (some ⟨gb, ob, none⟩) L bc) ∧ z.cell? ⟨gb, ob + q, none⟩ = some (.int .i64 y)) (first | exact ⟨f1, f2, f3, f4⟩ | exact ⟨s1, s2, s3, s4⟩ | exact ⟨cell_other s1 (.inr (by show 1 ≠ 2; decide)), cell_other s2 (.inr (by show 0 ≠ 2; decide)), cell_other s3 (.inr (by show 1 ≠ 2; decide)), cell_other s4 (.inl (Ne.symm hne4))⟩) (first | (go_at_call 99; refine (out_any y p.1 _).mono ?_; rintro e w2 ⟨v, rfl, ho, b2⟩; (obtain ⟨a9, c9, rfl⟩ := own_slice ho); (have s1 := (b2.cell (cell_lt f1)).trans f1); (have s2 := (b2.cell (cell_lt f2)).trans f2); (have s3 := (b2.cell (cell_lt f3)).trans f3); (have s4 := (b2.cell (cell_lt f4)).trans f4); (have s5 : w2.frozen? ⟨g, 2, none⟩ = false := (b2.frozen (cell_lt f6)).trans f5); (have s6 := (b2.cell (cell_lt f6)).trans f6); (have HO : Hid (Owns _ w2 _ _) := ho); (have HB2 : Hid (Below _ _ w2) := b2); clear ho b2))
  have hb2 : Below W.heap.size W w2 := (below_drewN (Below.refl W.heap.size W) 1).trans HB2.out
  have hc2 : Below w.heap.size w w2 := bW.trans (hb2.mono bW.size)
  obtain ⟨gx, rfl, hgx, -, -, hrow⟩ := own_some' HO.out (by rw [HO1.out]; exact hbp)
  have xr := hrow 0 (by rw [HO1.out]; exact hbp)
  obtain ⟨hl1, hl2⟩ := HW.out.lay hQ hc2 HO.out (by exact bW.size)
  have hgl := cell_lt s6
  have hgw : g < w.heap.size := HGL.out
  have hgs : w.heap.size ≤ gx := Nat.le_trans bW.size hgx
  have t1 := cell_other (v := Value.slice (some ⟨gx, 0, none⟩) (outL y p.1).length c9) (g := g) (j := 2) s1 (.inr (by show 1 ≠ 2; decide))
  have t2 := cell_set (v := Value.slice (some ⟨gx, 0, none⟩) (outL y p.1).length c9) s6
  have t3 := cell_other (v := Value.slice (some ⟨gx, 0, none⟩) (outL y p.1).length c9) (g := g) (j := 2) s2 (.inr (by show 0 ≠ 2; decide))
  have t4 := cell_other (v := Value.slice (some ⟨gx, 0, none⟩) (outL y p.1).length c9) (g := g) (j := 2) xr (.inl (by show gx ≠ g; omega))
  have HE : Hid (k.laned p = { k with xs := outL y p.1 }) := by rw [Hid, HY.out, HQ.out]; exact laned_bytes k p HB0.out
  have HI1 : Hid (p.1 = 1 → inW p k.gone = 14 + (outL y p.1).getD 0 0) := fun h => by rw [inW_one p _ HB0.out h, ← HQ.out, ← HY.out, ← HN.out, HZ.out]
  have HI4 : Hid (p.1 = 4 → inW p k.gone = (outL y p.1).getD 0 0) := fun h => by rw [inW_four p _ HB0.out h, ← HQ.out, ← HY.out, ← HN.out, HZ.out]
  rw [← HE.out] at hl1
  have HL1 : Hid (WkAt _ _ _ _ _) := hl1
  have HL2 : Hid (Below _ _ _) := hl2
  have HZB : Hid (p.1 = 1 → 0 ≤ (outL y p.1).getD 0 0 ∧ (outL y p.1).getD 0 0 < 2) := fun h => by rw [h]; exact out_bit y 0
  rename_i hHeld_
  clear hHeld_
  rw [HO1.out] at t1 t2 t3 t4 HL1 HL2
  try rw [HO1.out]
  generalize w2.setCell ⟨g, 2, none⟩ (Value.slice (some ⟨gx, 0, none⟩) N c9) = W3 at t1 t2 t3 t4 HL1 HL2 ⊢
  generalize (outL y p.1).getD 0 0 = z at t4 HI1 HI4 HZB
  clear xr hrow hl1 hl2 s1 s2 s3 s4 s5 s6 f1 f2 f3 f4 f5 f6 hc2 HO HB2 HE HW hO1 HO1 bW
  have r1 : (0 : Int) < (N : Int) := by omega
  rcases hl4 with h1 | h4
  · rw [h1] at t3
    have h14 := or_14z z (HZB.out h1)
    have HI : Hid (inW p k.gone = 14 + z) := HI1.out h1
    clear HI1 HI4 HZB
    go_upto_region 7 with fail
    go_quiet (fail)
    go_wp2
    go_ret
    exact ⟨ret_int HI.out.symm, HL1.out, below_drewN HL2.out _⟩
  · rw [h4] at t3
    have HI : Hid (inW p k.gone = z) := HI4.out h4
    clear HI1 HI4 HZB
    go_upto_region 7 with fail
    go_quiet (fail)
    go_wp2
    go_ret
    exact ⟨ret_int HI.out.symm, HL1.out, below_drewN HL2.out _⟩

set_option maxRecDepth 100000 in
set_option maxHeartbeats 4000000 in
theorem lanes_go (Q : Nat → Prop) (B g : Nat) (k : Wk) (p : Ph) (w : World) (h : WkAt Q B w g k) (hf : k.Fine p) (hb : 0 < p.2.1.length) (hz : k.gone % bcI p.1 ≠ 0) :
    Calls Tryz.prog 59 #[.pointer (some ⟨g, 0, none⟩)] w fun e w' => e = .returned (.int .i64 (inW p k.gone)) ∧ WkAt Q B w' g (k.laned p) ∧ Below B w w' := by
  have HW : Hid (WkAt Q B w g k) := h
  obtain ⟨hl4, hlt, h512, hb0, hb1, hol, hbp⟩ := hf.byte hb
  have hxs := hf.bytes hb hz
  have HE : Hid (k.laned p = k) := by rw [Hid, laned_bytes k p hb, ← hxs]
  obtain ⟨rv, xv, dv, hg, hB, hr, hx, hd, ha⟩ := h
  rw [hf.rest] at hr
  obtain ⟨a, cap, rfl, hcap, hr⟩ := hr
  obtain ⟨gr, o, rfl, hq, hc⟩ := hr (by simp)
  obtain ⟨bv, r1, x1, x2, x3, x4⟩ := hc 0 p rfl
  obtain ⟨ba, bc, rfl, hbr⟩ := id r1
  obtain ⟨m, hm⟩ : ∃ m, (p :: k.rest.tail).length = m + 1 := ⟨_, rfl⟩
  rw [hm] at hcap hg
  obtain ⟨N, HN⟩ : ∃ N, Hid (N = bcI p.1) := ⟨_, rfl⟩
  obtain ⟨L, HL⟩ : ∃ L, Hid (L = p.2.1.length) := ⟨_, rfl⟩
  obtain ⟨r, HR⟩ : ∃ r, Hid (r = k.gone % bcI p.1) := ⟨_, rfl⟩
  have hrN : r < N := by rw [HR.out, HN.out]; exact Nat.mod_lt _ hbp
  rw [hxs] at hx
  obtain ⟨xa, xc, rfl⟩ := own_slice hx
  obtain ⟨gx, rfl, hgx, -, hxc, hrow⟩ := own_some' hx (by rw [hol]; exact hbp)
  have xr := hrow r (by rw [hol, ← HN.out]; exact hrN)
  have HI1 : Hid (p.1 = 1 → inW p k.gone = 14 + (outL (p.2.1.getD (k.gone / bcI p.1) 0) p.1).getD r 0) := fun h => by rw [inW_one p _ hb h, ← HR.out]
  have HI4 : Hid (p.1 = 4 → inW p k.gone = (outL (p.2.1.getD (k.gone / bcI p.1) 0) p.1).getD r 0) := fun h => by rw [inW_four p _ hb h, ← HR.out]
  have HZB : Hid (p.1 = 1 → 0 ≤ (outL (p.2.1.getD (k.gone / bcI p.1) 0) p.1).getD r 0 ∧ (outL (p.2.1.getD (k.gone / bcI p.1) 0) p.1).getD r 0 < 2) := fun h => by rw [h]; exact out_bit _ r
  obtain ⟨z, hzz⟩ : ∃ z, z = (outL (p.2.1.getD (k.gone / bcI p.1) 0) p.1).getD r 0 := ⟨_, rfl⟩
  rw [← hzz] at xr HI1 HI4 HZB
  rw [hol, ← HN.out] at hg
  rw [← HN.out] at hbp hz
  rw [← HL.out] at h512 x2
  rw [Nat.zero_mul, Nat.add_zero] at x1 x2 x3 x4
  have c0 : w.cell? ⟨g, 0, none⟩ = some (.slice (some ⟨gr, o, none⟩) (m + 1) cap) := Blk.cell hg 0 rfl
  have c1 : w.cell? ⟨g, 1, none⟩ = some (.int .i64 (k.gone : Int)) := Blk.cell hg 1 rfl
  have c2 : w.cell? ⟨g, 2, none⟩ = some (.slice (some ⟨gx, 0, none⟩) N xc) := Blk.cell hg 2 rfl
  have hLp : 0 < L := by rw [HL.out]; exact hb
  have i0 : (0 : Int) < (L : Int) := by omega
  have i1 : (0 : Int) ≤ (r : Int) := by omega
  have i2 : (r : Int) < (N : Int) := by omega
  have im : (k.gone : Int) % (N : Int) = (r : Int) := emod_nat _ _ _ (by rw [HR.out, HN.out])
  have hN1 : ¬ (N = 0) := by omega
  have hr0 : ((r : Int) == 0) = false := beq_eq_false_iff_ne.2 (by have : r ≠ 0 := by { rw [HR.out, ← HN.out]; exact hz }; omega)
  obtain ⟨W, hW⟩ : ∃ W, W = w.alloc (.cells #[.int .i64 p.1, .slice ba L bc, .int .i64 p.2.2.1, .int .i64 p.2.2.2] 49) := ⟨_, rfl⟩
  have bW : Below w.heap.size w W := by rw [hW]; exact below_new _ _
  have f1 : W.cell? ⟨g, 1, none⟩ = some (.int .i64 (k.gone : Int)) := (bW.cell (by exact cell_lt c1)).trans c1
  have f2 : W.cell? ⟨w.heap.size, 0, none⟩ = some (.int .i64 p.1) := by rw [hW]; simp
  have f4 : W.cell? ⟨gx, r, none⟩ = some (.int .i64 z) := (bW.cell (by exact cell_lt xr)).trans xr
  have f6 : W.cell? ⟨g, 2, none⟩ = some (.slice (some ⟨gx, 0, none⟩) N xc) := (bW.cell (by exact cell_lt c2)).trans c2
  have HL1 : Hid (WkAt Q B W g k) := HW.out.below bW
  have HL2 : Hid (Below B w W) := bW.mono (by have := cell_lt c0; have : g < w.heap.size := this; omega)
  have HX : Hid (p.1 = 1 ∨ p.1 = 4) := hl4
  clear hc hr hm hx hd ha hg hf r1 hb hbr hq hb0 hb1 hol hlt h512 hz hxs hzz hrow hxc hgx hrN hLp hl4 hbp
  rcases HX.out with h1 | h4
  · rw [h1] at f2
    have h14 := or_14z z (HZB.out h1)
    have HI : Hid (inW p k.gone = 14 + z) := HI1.out h1
    have HB := bc_any 1
    rw [← h1, ← HN.out, h1] at HB
    rw [h1] at x1 hW
    clear HI1 HI4 HZB h1 HX
    go_enter Tryz.func59, Tryz.ntmps59
    go_upto_region 4 with fail
    rw [← hW]
    clear hW c0 c1 c2 x1 x2 x3 x4 xr bW
    go_wp2_with fail
    refine (HB _).mono ?_
    rintro e w1 ⟨rfl, rfl⟩
    clear HB
    go_upto_region 7 with fail
    go_quiet (fail)
    go_wp2
    go_ret
    rw [HE.out]
    exact ⟨ret_int HI.out.symm, HL1.out, below_drewN HL2.out _⟩
  · rw [h4] at f2
    have HI : Hid (inW p k.gone = z) := HI4.out h4
    have HB := bc_any 4
    rw [← h4, ← HN.out, h4] at HB
    rw [h4] at x1 hW
    clear HI1 HI4 HZB h4 HX
    go_enter Tryz.func59, Tryz.ntmps59
    go_upto_region 4 with fail
    rw [← hW]
    clear hW c0 c1 c2 x1 x2 x3 x4 xr bW
    go_wp2_with fail
    refine (HB _).mono ?_
    rintro e w1 ⟨rfl, rfl⟩
    clear HB
    go_upto_region 7 with fail
    go_quiet (fail)
    go_wp2
    go_ret
    rw [HE.out]
    exact ⟨ret_int HI.out.symm, HL1.out, below_drewN HL2.out _⟩
theorem inW_idle (p : Ph) (g : Nat) (hb : p.2.1.length = 0) : inW p g = 15 := by unfold inW; rw [if_pos hb]
/-- What goes onto the lanes at the clock that comes. -/
theorem lanes_any (Q : Nat → Prop) (B g : Nat) (k : Wk) (p : Ph) (w : World) (hQ : ∀ j, Q j → j < B) (h : WkAt Q B w g k) (hf : k.Fine p) :
    Calls Tryz.prog 59 #[.pointer (some ⟨g, 0, none⟩)] w fun e w' => e = .returned (.int .i64 (inW p k.gone)) ∧ WkAt Q B w' g (k.laned p) ∧ Below B w w' := by
  rcases Nat.eq_zero_or_pos p.2.1.length with hb | hb
  · refine (lanes_idle Q B g k p w h hf hb).mono ?_
    rintro e w' ⟨rfl, h1, h2⟩
    have hl : B ≤ w.heap.size := by
      obtain ⟨rv, xv, dv, hg, hB, -⟩ := h
      have := Blk.lt hg; omega
    refine ⟨by rw [inW_idle p _ hb], ?_, h2.mono hl⟩
    unfold Wk.laned; rw [if_pos hb]; exact h1
  · by_cases hz : k.gone % bcI p.1 = 0
    · exact lanes_new Q B g k p w hQ h hf hb hz
    · exact lanes_go Q B g k p w h hf hb hz
end Go.Proofs.YtjhjghakfedeeaaGreat
end

/-! What the chip said is taken into the byte that comes: the program's call. Conditions: fewer bytes than memory bears. -/
section
namespace Go.Proofs.YtjhjghakfedeeaaGreat
open Go.RowKit Plain
set_option linter.unusedVariables false

theorem bitV_one (y : Nat) : bitV 1 y = ((y / 2 % 2 : Nat) : Int) := rfl
theorem bitV_four (y : Nat) : bitV 4 y = (y : Int) := rfl
theorem bc_q1 (w : World) : Calls Tryz.prog 91 #[.int .i64 1] w fun e w' => e = .returned (.int .i64 8) ∧ w' = w := bc_q 1 w
theorem bc_q4 (w : World) : Calls Tryz.prog 91 #[.int .i64 4] w fun e w' => e = .returned (.int .i64 2) ∧ w' = w := bc_q 4 w
theorem own_zero {B : Nat} {w : World} {g n c : Nat} {L : List Int} (h : Owns B w (.slice (some ⟨g, 0, none⟩) n c) L) : Owns B w (.slice (some ⟨g, 0, none⟩) 0 c) [] := by
  refine ⟨rfl, ?_⟩
  rcases h.2 with ⟨h1, _⟩ | ⟨g', cap, cur, hv, hb, hg, h1, h2, h3, h4⟩
  · cases h1
  · injection hv with e1 e2 e3
    injection e1 with e1
    injection e1 with e1
    subst e1 e3
    exact .inr ⟨_, _, cur, rfl, hb, hg, Nat.zero_le _, h2, h3, by simp⟩
theorem one_cell (w : World) (x : Int) : ∀ (j : Nat) (u : Value), [Value.int .i64 x][j]? = some u → (w.alloc (.cells #[.int .i64 x] 3)).cell? ((⟨w.heap.size, 0, none⟩ : Addr).add j) = some u := by
  intro j u hj
  match j, hj with
  | 0, hj => simp at hj; subst hj; simp [Addr.add]
theorem one_one (x : Int) : ∀ u ∈ [Value.int .i64 x], u.oneCell' = true := fun u hu => by simp at hu; subst hu; rfl
theorem half_and (y : Nat) : bits .and .i64 ((y : Int) / 2) 1 = ((y / 2 % 2 : Nat) : Int) := by
  rw [and_1]; rfl

set_option maxRecDepth 100000 in
set_option maxHeartbeats 4000000 in
theorem hear_one_more (Q : Nat → Prop) (B g : Nat) (k : Wk) (y : Nat) (w : World) (hQ : ∀ j, Q j → j < B) (h : WkAt Q B w g k) (hlen : k.xs.length + 1 < 8) (hrd : k.read.length ≤ 1000000000000) :
    Calls Tryz.prog 100 #[.pointer (some ⟨g, 0, none⟩), .int .i64 (y : Int), .int .i64 1] w fun e w' => e = .returned (.tuple #[]) ∧ WkAt Q B w' g { k with xs := k.xs ++ [bitV 1 y] } ∧ Below B w w' ∧ Kept w w' := by
  obtain ⟨i0, hi0, hz0, hz1, hz2⟩ := info_parts info3
  obtain ⟨rv, xv, dv, hg, hB, hr, hx, hd, ha⟩ := h
  obtain ⟨v, HV⟩ : ∃ v, Hid (bitV 1 y = v) := ⟨_, rfl⟩
  rw [HV.out]
  have c2 : w.cell? ⟨g, 2, none⟩ = some xv := Blk.cell hg 2 rfl
  have hv1 : bits .and .i64 ((y : Int) / 2) 1 = v := by rw [half_and, ← HV.out]; rfl
  obtain ⟨L, HL⟩ : ∃ L, Hid (L = k.xs.length) := ⟨_, rfl⟩
  rw [← HL.out] at hlen
  have HLN : Hid (L + 1 < 8) := hlen
  have hLb : L ≤ 8 := by omega
  clear hlen
  have hx0 : Owns B w xv k.xs := hx
  obtain ⟨xa, xc, rfl⟩ := own_slice hx
  rw [← HL.out] at hg hx ha hx0
  have hgl : g < w.heap.size := Blk.lt hg
  have HG : Hid (Blk w g 99 [rv, .int .i64 (k.gone : Int), .slice xa L xc, dv]) := hg
  have HX : Hid (Owns B w (.slice xa L xc) k.xs) := hx
  have HR : Hid (PIn Q w rv k.rest) := hr
  have HD : Hid (Owns B w dv k.read) := hd
  have HA : Hid ((Value.slice xa L xc).ownBlock = none ∨ (Value.slice xa L xc).ownBlock ≠ dv.ownBlock) := ha
  have hxs : (w.alloc (.cells #[.int .i64 v] 3)).ownsRow B 3 1 (.slice xa L xc) k.xs.length (k.xs.map (Value.int .i64)) := World.ownsRow.alloc hx0 _
  rw [← HL.out] at hxs c2
  clear hg hx hr hd ha hx0
  go_enter Tryz.func100, Tryz.ntmps100
  go_upto_region 2 with fail
  try rw [hv1]
  go_wp2_with (at_builtin; refine wpList_append_lies _ rfl _ _ 23 rfl B 3 i0 (.int .i64 0) 1 8 Tryz.underlying23 hi0 hz0 hz1 hz2 rfl (by decide) _ _ _ rfl hxs ⟨w.heap.size, 0, none⟩ 1 1 [.int .i64 v] rfl rfl (one_cell w v) (one_one v) (by decide) ?c3 ?c4 ?c5 (w.heap.size + 1) (by simp) ?_)
  case c3 => unfold maxLen; omega
  case c4 => omega
  case c5 => simp; omega
  intro gx cap w3 hown hgr hat hlt
  obtain ⟨hl1, hl2, hg3, hk⟩ := WkAt.more (.cells #[.int .i64 v] 3) hQ HG.out hB HR.out HX.out HD.out HA.out hown (by rw [HL.out]) hgr hat
  have s2 : w3.cell? ⟨g, 2, none⟩ = some (.slice xa L xc) := Blk.cell hg3 2 rfl
  have f2 : w3.frozen? ⟨g, 2, none⟩ = false := Blk.frozen hg3 2
  have t2 := cell_set (v := Value.slice (some ⟨gx, 0, none⟩) (L + 1) cap) s2
  have HL1 : Hid (WkAt _ _ _ _ _) := hl1
  have HL2 : Hid (Below _ _ _) := hl2
  have HK : Hid (Kept w _) := hk
  clear hown hgr hat hlt hl1 hl2 hg3 hk hxs c2
  go_upto_region 3 with fail
  generalize hW3 : w3.setCell ⟨g, 2, none⟩ (Value.slice (some ⟨gx, 0, none⟩) (L + 1) cap) = W3 at t2 HL1 HL2 HK ⊢
  clear hW3 s2 f2
  have hlt : ((L : Int) + 1 < 8) := by have := HLN.out; omega
  go_quiet (first | (go_at_call 91; exact Calls.quiet_of_same (bc_q1 _)))
  go_wp2
  exact bodyPost_ret (results_none rfl _ _ _) rfl ⟨rfl, HL1.out, below_drewN HL2.out _, HK.out.trans (Kept.below (below_drewN (Below.refl _ _) _))⟩

set_option maxRecDepth 100000 in
set_option maxHeartbeats 4000000 in
theorem hear_four_more (Q : Nat → Prop) (B g : Nat) (k : Wk) (y : Nat) (w : World) (hQ : ∀ j, Q j → j < B) (h : WkAt Q B w g k) (hlen : k.xs.length + 1 < 2) (hrd : k.read.length ≤ 1000000000000) :
    Calls Tryz.prog 100 #[.pointer (some ⟨g, 0, none⟩), .int .i64 (y : Int), .int .i64 4] w fun e w' => e = .returned (.tuple #[]) ∧ WkAt Q B w' g { k with xs := k.xs ++ [bitV 4 y] } ∧ Below B w w' ∧ Kept w w' := by
  obtain ⟨i0, hi0, hz0, hz1, hz2⟩ := info_parts info3
  obtain ⟨rv, xv, dv, hg, hB, hr, hx, hd, ha⟩ := h
  obtain ⟨v, HV⟩ : ∃ v, Hid (bitV 4 y = v) := ⟨_, rfl⟩
  rw [HV.out]
  have c2 : w.cell? ⟨g, 2, none⟩ = some xv := Blk.cell hg 2 rfl
  have hv4 : (y : Int) = v := HV.out
  obtain ⟨L, HL⟩ : ∃ L, Hid (L = k.xs.length) := ⟨_, rfl⟩
  rw [← HL.out] at hlen
  have HLN : Hid (L + 1 < 2) := hlen
  have hLb : L ≤ 8 := by omega
  clear hlen
  have hx0 : Owns B w xv k.xs := hx
  obtain ⟨xa, xc, rfl⟩ := own_slice hx
  rw [← HL.out] at hg hx ha hx0
  have hgl : g < w.heap.size := Blk.lt hg
  have HG : Hid (Blk w g 99 [rv, .int .i64 (k.gone : Int), .slice xa L xc, dv]) := hg
  have HX : Hid (Owns B w (.slice xa L xc) k.xs) := hx
  have HR : Hid (PIn Q w rv k.rest) := hr
  have HD : Hid (Owns B w dv k.read) := hd
  have HA : Hid ((Value.slice xa L xc).ownBlock = none ∨ (Value.slice xa L xc).ownBlock ≠ dv.ownBlock) := ha
  have hxs : (w.alloc (.cells #[.int .i64 v] 3)).ownsRow B 3 1 (.slice xa L xc) k.xs.length (k.xs.map (Value.int .i64)) := World.ownsRow.alloc hx0 _
  rw [← HL.out] at hxs c2
  clear hg hx hr hd ha hx0
  go_enter Tryz.func100, Tryz.ntmps100
  go_upto_region 2 with fail
  rw [hv4]
  go_wp2_with (at_builtin; refine wpList_append_lies _ rfl _ _ 23 rfl B 3 i0 (.int .i64 0) 1 8 Tryz.underlying23 hi0 hz0 hz1 hz2 rfl (by decide) _ _ _ rfl hxs ⟨w.heap.size, 0, none⟩ 1 1 [.int .i64 v] rfl rfl (one_cell w v) (one_one v) (by decide) ?c3 ?c4 ?c5 (w.heap.size + 1) (by simp) ?_)
  case c3 => unfold maxLen; omega
  case c4 => omega
  case c5 => simp; omega
  intro gx cap w3 hown hgr hat hlt
  obtain ⟨hl1, hl2, hg3, hk⟩ := WkAt.more (.cells #[.int .i64 v] 3) hQ HG.out hB HR.out HX.out HD.out HA.out hown (by rw [HL.out]) hgr hat
  have s2 : w3.cell? ⟨g, 2, none⟩ = some (.slice xa L xc) := Blk.cell hg3 2 rfl
  have f2 : w3.frozen? ⟨g, 2, none⟩ = false := Blk.frozen hg3 2
  have t2 := cell_set (v := Value.slice (some ⟨gx, 0, none⟩) (L + 1) cap) s2
  have HL1 : Hid (WkAt _ _ _ _ _) := hl1
  have HL2 : Hid (Below _ _ _) := hl2
  have HK : Hid (Kept w _) := hk
  clear hown hgr hat hlt hl1 hl2 hg3 hk hxs c2
  go_upto_region 3 with fail
  generalize hW3 : w3.setCell ⟨g, 2, none⟩ (Value.slice (some ⟨gx, 0, none⟩) (L + 1) cap) = W3 at t2 HL1 HL2 HK ⊢
  clear hW3 s2 f2
  have hlt : ((L : Int) + 1 < 2) := by have := HLN.out; omega
  go_quiet (first | (go_at_call 91; exact Calls.quiet_of_same (bc_q4 _)))
  go_wp2
  exact bodyPost_ret (results_none rfl _ _ _) rfl ⟨rfl, HL1.out, below_drewN HL2.out _, HK.out.trans (Kept.below (below_drewN (Below.refl _ _) _))⟩

set_option maxRecDepth 100000 in
set_option maxHeartbeats 4000000 in
theorem hear_one_full (Q : Nat → Prop) (B g : Nat) (k : Wk) (y : Nat) (w : World) (hQ : ∀ j, Q j → j < B) (h : WkAt Q B w g k) (hlen : k.xs.length + 1 = 8) (hrd : k.read.length ≤ 1000000000000) :
    Calls Tryz.prog 100 #[.pointer (some ⟨g, 0, none⟩), .int .i64 (y : Int), .int .i64 1] w fun e w' => e = .returned (.tuple #[]) ∧ WkAt Q B w' g { k with xs := [], read := k.read ++ [inV (k.xs ++ [bitV 1 y]) 1] } ∧ Below B w w' ∧ Kept w w' := by
  obtain ⟨i0, hi0, hz0, hz1, hz2⟩ := info_parts info3
  obtain ⟨rv, xv, dv, hg, hB, hr, hx, hd, ha⟩ := h
  obtain ⟨v, HV⟩ : ∃ v, Hid (bitV 1 y = v) := ⟨_, rfl⟩
  rw [HV.out]
  have c2 : w.cell? ⟨g, 2, none⟩ = some xv := Blk.cell hg 2 rfl
  have hv1 : bits .and .i64 ((y : Int) / 2) 1 = v := by rw [half_and, ← HV.out]; rfl
  obtain ⟨L, HL⟩ : ∃ L, Hid (L = k.xs.length) := ⟨_, rfl⟩
  rw [← HL.out] at hlen
  have HLN : Hid (L + 1 = 8) := hlen
  have hLb : L ≤ 8 := by omega
  clear hlen
  have hx0 : Owns B w xv k.xs := hx
  obtain ⟨xa, xc, rfl⟩ := own_slice hx
  rw [← HL.out] at hg hx ha hx0
  have hgl : g < w.heap.size := Blk.lt hg
  have HG : Hid (Blk w g 99 [rv, .int .i64 (k.gone : Int), .slice xa L xc, dv]) := hg
  have HX : Hid (Owns B w (.slice xa L xc) k.xs) := hx
  have HR : Hid (PIn Q w rv k.rest) := hr
  have HD : Hid (Owns B w dv k.read) := hd
  have HA : Hid ((Value.slice xa L xc).ownBlock = none ∨ (Value.slice xa L xc).ownBlock ≠ dv.ownBlock) := ha
  have hxs : (w.alloc (.cells #[.int .i64 v] 3)).ownsRow B 3 1 (.slice xa L xc) k.xs.length (k.xs.map (Value.int .i64)) := World.ownsRow.alloc hx0 _
  rw [← HL.out] at hxs c2
  clear hg hx hr hd ha hx0
  go_enter Tryz.func100, Tryz.ntmps100
  go_upto_region 2 with fail
  try rw [hv1]
  go_wp2_with (at_builtin; refine wpList_append_lies _ rfl _ _ 23 rfl B 3 i0 (.int .i64 0) 1 8 Tryz.underlying23 hi0 hz0 hz1 hz2 rfl (by decide) _ _ _ rfl hxs ⟨w.heap.size, 0, none⟩ 1 1 [.int .i64 v] rfl rfl (one_cell w v) (one_one v) (by decide) ?c3 ?c4 ?c5 (w.heap.size + 1) (by simp) ?_)
  case c3 => unfold maxLen; omega
  case c4 => omega
  case c5 => simp; omega
  intro gx cap w3 hown hgr hat hlt
  obtain ⟨hl1, hl2, hg3, hk⟩ := WkAt.more (.cells #[.int .i64 v] 3) hQ HG.out hB HR.out HX.out HD.out HA.out hown (by rw [HL.out]) hgr hat
  have s2 : w3.cell? ⟨g, 2, none⟩ = some (.slice xa L xc) := Blk.cell hg3 2 rfl
  have f2 : w3.frozen? ⟨g, 2, none⟩ = false := Blk.frozen hg3 2
  have t2 := cell_set (v := Value.slice (some ⟨gx, 0, none⟩) (L + 1) cap) s2
  have HL1 : Hid (WkAt _ _ _ _ _) := hl1
  have HL2 : Hid (Below _ _ _) := hl2
  have HK : Hid (Kept w _) := hk
  clear hown hgr hat hlt hl1 hl2 hg3 hk hxs c2
  go_upto_region 3 with fail
  generalize hW3 : w3.setCell ⟨g, 2, none⟩ (Value.slice (some ⟨gx, 0, none⟩) (L + 1) cap) = W3 at t2 HL1 HL2 HK ⊢
  clear hW3 s2 f2
  have hlt : ¬ ((L : Int) + 1 < 8) := by have := HLN.out; omega
  go_quiet (first | (go_at_call 91; exact Calls.quiet_of_same (bc_q1 _)))
  go_upto_region 4 with fail
  have HL3 : Hid (WkAt Q B (W3.drewN nq) g _) := HL1.out
  have HB3 : Hid (Below B w (W3.drewN nq)) := below_drewN HL2.out _
  have HK3 : Hid (Kept w (W3.drewN nq)) := HK.out.trans (Kept.below (below_drewN (Below.refl _ _) _))
  have t3 : (W3.drewN nq).cell? ⟨g, 2, none⟩ = some (.slice (some ⟨gx, 0, none⟩) (L + 1) cap) := t2
  clear HL1 HL2 HK t2 hlt
  generalize W3.drewN nq = W4 at HL3 HB3 HK3 t3 ⊢
  have hRd : Reads W4 (.slice (some ⟨gx, 0, none⟩) (L + 1) cap) (k.xs ++ [v]) := by
    obtain ⟨rv2, xv2, dv2, hg2, hB2, hr2, hx2, hd2, ha2⟩ := HL3.out
    obtain rfl : xv2 = _ := Option.some.inj ((Blk.cell hg2 2 rfl).symm.trans t3)
    exact Owns.reads hx2
  have HRd : Hid (Reads W4 (.slice (some ⟨gx, 0, none⟩) (L + 1) cap) (k.xs ++ [v])) := hRd
  clear hRd
  go_wp2_with fail
  refine (in_any _ (k.xs ++ [v]) 1 W4 HRd.out (by rw [List.length_append, ← HL.out]; simp; omega)).mono ?_
  rintro e w5 ⟨rfl, b5⟩
  obtain ⟨x, hx⟩ : ∃ x, inV (k.xs ++ [v]) 1 = x := ⟨_, rfl⟩
  have HXV : Hid (inV (k.xs ++ [v]) 1 = x) := hx
  rw [hx]
  have h5 := HL3.out.below b5
  have t5 := (b5.cell (cell_lt t3)).trans t3
  have hgl5 : g < W4.heap.size := cell_lt t3
  have HB5 : Hid (Below B w w5) := HB3.out.trans (b5.mono (by omega))
  have HK5 : Hid (Kept w w5) := HK3.out.trans (Kept.below b5)
  clear b5 HL3 HB3 HK3 t3 HRd hx
  obtain ⟨rv2, xv2, dv2, hg2, hB2, hr2, hx2, hd2, ha2⟩ := h5
  obtain rfl : xv2 = _ := Option.some.inj ((Blk.cell hg2 2 rfl).symm.trans t5)
  obtain ⟨R, HRL⟩ : ∃ R, Hid (R = k.read.length) := ⟨_, rfl⟩
  obtain ⟨da, dc, rfl⟩ := own_slice hd2
  have hds : (w5.alloc (.cells #[.int .i64 x] 3)).ownsRow B 3 1 (.slice da k.read.length dc) k.read.length (k.read.map (Value.int .i64)) := World.ownsRow.alloc hd2 _
  change Blk w5 g 99 [rv2, .int .i64 (k.gone : Int), _, .slice da k.read.length dc] at hg2
  rw [← HRL.out] at hds hrd
  have d3 : w5.cell? ⟨g, 3, none⟩ = some (.slice da R dc) := by rw [HRL.out]; exact Blk.cell hg2 3 rfl
  have HG2 : Hid (Blk w5 g 99 [rv2, .int .i64 (k.gone : Int), .slice (some ⟨gx, 0, none⟩) (L + 1) cap, .slice da R dc]) := by rw [HRL.out]; exact hg2
  have HX2 : Hid (Owns B w5 (.slice (some ⟨gx, 0, none⟩) (L + 1) cap) (k.xs ++ [v])) := hx2
  have HR2 : Hid (PIn Q w5 rv2 k.rest) := hr2
  have HD2 : Hid (Owns B w5 (.slice da R dc) k.read) := by rw [HRL.out]; exact hd2
  have HA2 : Hid ((Value.slice (some ⟨gx, 0, none⟩) (L + 1) cap).ownBlock = none ∨ (Value.slice (some ⟨gx, 0, none⟩) (L + 1) cap).ownBlock ≠ (Value.slice da R dc).ownBlock) := by rw [HRL.out]; exact ha2
  have hgl6 : g < w5.heap.size := cell_lt t5
  clear hg2 hx2 hr2 hd2 ha2 hB2 HG HX HR HD HA
  go_wp2_with (at_builtin; refine wpList_append_lies _ rfl _ _ 23 rfl B 3 i0 (.int .i64 0) 1 8 Tryz.underlying23 hi0 hz0 hz1 hz2 rfl (by decide) _ _ _ rfl hds ⟨w5.heap.size, 0, none⟩ 1 1 [.int .i64 x] rfl rfl (one_cell w5 x) (one_one x) (by decide) ?c3 ?c4 ?c5 (w5.heap.size + 1) (by simp) ?_)
  case c3 => unfold maxLen; omega
  case c4 => omega
  case c5 => simp; omega
  intro gy cap2 w6 hown hgr hat hlt
  obtain ⟨hl1, hl2, hg3, hk2⟩ := WkAt.byte (k := { k with xs := k.xs ++ [v] }) (.cells #[.int .i64 x] 3) hQ HG2.out hB HR2.out HX2.out HD2.out HA2.out hown (by rw [HRL.out]) hgr hat
  have s3 : w6.cell? ⟨g, 3, none⟩ = some (.slice da R dc) := Blk.cell hg3 3 rfl
  have f3 : w6.frozen? ⟨g, 3, none⟩ = false := Blk.frozen hg3 3
  have s2 : w6.cell? ⟨g, 2, none⟩ = some (.slice (some ⟨gx, 0, none⟩) (L + 1) cap) := Blk.cell hg3 2 rfl
  have t2 := cell_other (v := Value.slice (some ⟨gy, 0, none⟩) (R + 1) cap2) (g := g) (j := 3) s2 (.inr (by show 2 ≠ 3; decide))
  have HL1 : Hid (WkAt _ _ _ _ _) := hl1
  have HL2 : Hid (Below _ _ _) := HB5.out.trans (hl2.mono (Nat.le_refl _))
  have HK : Hid (Kept w _) := HK5.out.trans hk2
  clear hown hgr hat hlt hl1 hl2 hg3 hk2 HK5 hds d3 t5 HG2 HX2 HR2 HD2 HA2
  go_upto_region 6 with fail
  generalize hW7 : w6.setCell ⟨g, 3, none⟩ (Value.slice (some ⟨gy, 0, none⟩) (R + 1) cap2) = W7 at t2 HL1 HL2 HK ⊢
  clear hW7 s2 s3 f3 HB5
  have hcap : L + 1 ≤ cap := by
    obtain ⟨rv2, xv2, dv2, hg2, hB2, hr2, hx2, hd2, ha2⟩ := HL1.out
    obtain rfl : xv2 = _ := Option.some.inj ((Blk.cell hg2 2 rfl).symm.trans t2)
    obtain ⟨_, _, _, h3, h4, -⟩ := own_some' hx2 (by simp)
    rw [← h3] at h4; exact h4
  have hfin : WkAt Q B (W7.setCell ⟨g, 2, none⟩ (.slice (some ⟨gx, 0, none⟩) 0 cap)) g { k with xs := [], read := k.read ++ [x] } ∧ Below B W7 (W7.setCell ⟨g, 2, none⟩ (.slice (some ⟨gx, 0, none⟩) 0 cap)) ∧ Kept W7 (W7.setCell ⟨g, 2, none⟩ (.slice (some ⟨gx, 0, none⟩) 0 cap)) := by
    obtain ⟨rv2, xv2, dv2, hg2, hB2, hr2, hx2, hd2, ha2⟩ := HL1.out
    obtain rfl : xv2 = _ := Option.some.inj ((Blk.cell hg2 2 rfl).symm.trans t2)
    exact WkAt.forget (k := { k with xs := k.xs ++ [v], read := k.read ++ [x] }) hQ hg2 hB hr2 (own_zero hx2) hd2 ha2
  have f2 : W7.frozen? ⟨g, 2, none⟩ = false := by
    obtain ⟨rv2, xv2, dv2, hg2, -⟩ := HL1.out
    exact Blk.frozen hg2 2
  have HF1 : Hid (WkAt _ _ _ _ _) := hfin.1
  have HF2 : Hid (Below _ _ _) := HL2.out.trans hfin.2.1
  have HF3 : Hid (Kept w _) := HK.out.trans hfin.2.2
  have hc0 : (0 : Int) ≤ (cap : Int) := by omega
  clear hfin HL1 HL2
  go_wp2
  rw [HXV.out]
  exact bodyPost_end (results_none rfl _ _ _) rfl ⟨rfl, HF1.out, HF2.out, HF3.out⟩

set_option maxRecDepth 100000 in
set_option maxHeartbeats 4000000 in
theorem hear_four_full (Q : Nat → Prop) (B g : Nat) (k : Wk) (y : Nat) (w : World) (hQ : ∀ j, Q j → j < B) (h : WkAt Q B w g k) (hlen : k.xs.length + 1 = 2) (hrd : k.read.length ≤ 1000000000000) :
    Calls Tryz.prog 100 #[.pointer (some ⟨g, 0, none⟩), .int .i64 (y : Int), .int .i64 4] w fun e w' => e = .returned (.tuple #[]) ∧ WkAt Q B w' g { k with xs := [], read := k.read ++ [inV (k.xs ++ [bitV 4 y]) 4] } ∧ Below B w w' ∧ Kept w w' := by
  obtain ⟨i0, hi0, hz0, hz1, hz2⟩ := info_parts info3
  obtain ⟨rv, xv, dv, hg, hB, hr, hx, hd, ha⟩ := h
  obtain ⟨v, HV⟩ : ∃ v, Hid (bitV 4 y = v) := ⟨_, rfl⟩
  rw [HV.out]
  have c2 : w.cell? ⟨g, 2, none⟩ = some xv := Blk.cell hg 2 rfl
  have hv4 : (y : Int) = v := HV.out
  obtain ⟨L, HL⟩ : ∃ L, Hid (L = k.xs.length) := ⟨_, rfl⟩
  rw [← HL.out] at hlen
  have HLN : Hid (L + 1 = 2) := hlen
  have hLb : L ≤ 8 := by omega
  clear hlen
  have hx0 : Owns B w xv k.xs := hx
  obtain ⟨xa, xc, rfl⟩ := own_slice hx
  rw [← HL.out] at hg hx ha hx0
  have hgl : g < w.heap.size := Blk.lt hg
  have HG : Hid (Blk w g 99 [rv, .int .i64 (k.gone : Int), .slice xa L xc, dv]) := hg
  have HX : Hid (Owns B w (.slice xa L xc) k.xs) := hx
  have HR : Hid (PIn Q w rv k.rest) := hr
  have HD : Hid (Owns B w dv k.read) := hd
  have HA : Hid ((Value.slice xa L xc).ownBlock = none ∨ (Value.slice xa L xc).ownBlock ≠ dv.ownBlock) := ha
  have hxs : (w.alloc (.cells #[.int .i64 v] 3)).ownsRow B 3 1 (.slice xa L xc) k.xs.length (k.xs.map (Value.int .i64)) := World.ownsRow.alloc hx0 _
  rw [← HL.out] at hxs c2
  clear hg hx hr hd ha hx0
  go_enter Tryz.func100, Tryz.ntmps100
  go_upto_region 2 with fail
  rw [hv4]
  go_wp2_with (at_builtin; refine wpList_append_lies _ rfl _ _ 23 rfl B 3 i0 (.int .i64 0) 1 8 Tryz.underlying23 hi0 hz0 hz1 hz2 rfl (by decide) _ _ _ rfl hxs ⟨w.heap.size, 0, none⟩ 1 1 [.int .i64 v] rfl rfl (one_cell w v) (one_one v) (by decide) ?c3 ?c4 ?c5 (w.heap.size + 1) (by simp) ?_)
  case c3 => unfold maxLen; omega
  case c4 => omega
  case c5 => simp; omega
  intro gx cap w3 hown hgr hat hlt
  obtain ⟨hl1, hl2, hg3, hk⟩ := WkAt.more (.cells #[.int .i64 v] 3) hQ HG.out hB HR.out HX.out HD.out HA.out hown (by rw [HL.out]) hgr hat
  have s2 : w3.cell? ⟨g, 2, none⟩ = some (.slice xa L xc) := Blk.cell hg3 2 rfl
  have f2 : w3.frozen? ⟨g, 2, none⟩ = false := Blk.frozen hg3 2
  have t2 := cell_set (v := Value.slice (some ⟨gx, 0, none⟩) (L + 1) cap) s2
  have HL1 : Hid (WkAt _ _ _ _ _) := hl1
  have HL2 : Hid (Below _ _ _) := hl2
  have HK : Hid (Kept w _) := hk
  clear hown hgr hat hlt hl1 hl2 hg3 hk hxs c2
  go_upto_region 3 with fail
  generalize hW3 : w3.setCell ⟨g, 2, none⟩ (Value.slice (some ⟨gx, 0, none⟩) (L + 1) cap) = W3 at t2 HL1 HL2 HK ⊢
  clear hW3 s2 f2
  have hlt : ¬ ((L : Int) + 1 < 2) := by have := HLN.out; omega
  go_quiet (first | (go_at_call 91; exact Calls.quiet_of_same (bc_q4 _)))
  go_upto_region 4 with fail
  have HL3 : Hid (WkAt Q B (W3.drewN nq) g _) := HL1.out
  have HB3 : Hid (Below B w (W3.drewN nq)) := below_drewN HL2.out _
  have HK3 : Hid (Kept w (W3.drewN nq)) := HK.out.trans (Kept.below (below_drewN (Below.refl _ _) _))
  have t3 : (W3.drewN nq).cell? ⟨g, 2, none⟩ = some (.slice (some ⟨gx, 0, none⟩) (L + 1) cap) := t2
  clear HL1 HL2 HK t2 hlt
  generalize W3.drewN nq = W4 at HL3 HB3 HK3 t3 ⊢
  have hRd : Reads W4 (.slice (some ⟨gx, 0, none⟩) (L + 1) cap) (k.xs ++ [v]) := by
    obtain ⟨rv2, xv2, dv2, hg2, hB2, hr2, hx2, hd2, ha2⟩ := HL3.out
    obtain rfl : xv2 = _ := Option.some.inj ((Blk.cell hg2 2 rfl).symm.trans t3)
    exact Owns.reads hx2
  have HRd : Hid (Reads W4 (.slice (some ⟨gx, 0, none⟩) (L + 1) cap) (k.xs ++ [v])) := hRd
  clear hRd
  go_wp2_with fail
  refine (in_any _ (k.xs ++ [v]) 4 W4 HRd.out (by rw [List.length_append, ← HL.out]; simp; omega)).mono ?_
  rintro e w5 ⟨rfl, b5⟩
  obtain ⟨x, hx⟩ : ∃ x, inV (k.xs ++ [v]) 4 = x := ⟨_, rfl⟩
  have HXV : Hid (inV (k.xs ++ [v]) 4 = x) := hx
  rw [hx]
  have h5 := HL3.out.below b5
  have t5 := (b5.cell (cell_lt t3)).trans t3
  have hgl5 : g < W4.heap.size := cell_lt t3
  have HB5 : Hid (Below B w w5) := HB3.out.trans (b5.mono (by omega))
  have HK5 : Hid (Kept w w5) := HK3.out.trans (Kept.below b5)
  clear b5 HL3 HB3 HK3 t3 HRd hx
  obtain ⟨rv2, xv2, dv2, hg2, hB2, hr2, hx2, hd2, ha2⟩ := h5
  obtain rfl : xv2 = _ := Option.some.inj ((Blk.cell hg2 2 rfl).symm.trans t5)
  obtain ⟨R, HRL⟩ : ∃ R, Hid (R = k.read.length) := ⟨_, rfl⟩
  obtain ⟨da, dc, rfl⟩ := own_slice hd2
  have hds : (w5.alloc (.cells #[.int .i64 x] 3)).ownsRow B 3 1 (.slice da k.read.length dc) k.read.length (k.read.map (Value.int .i64)) := World.ownsRow.alloc hd2 _
  change Blk w5 g 99 [rv2, .int .i64 (k.gone : Int), _, .slice da k.read.length dc] at hg2
  rw [← HRL.out] at hds hrd
  have d3 : w5.cell? ⟨g, 3, none⟩ = some (.slice da R dc) := by rw [HRL.out]; exact Blk.cell hg2 3 rfl
  have HG2 : Hid (Blk w5 g 99 [rv2, .int .i64 (k.gone : Int), .slice (some ⟨gx, 0, none⟩) (L + 1) cap, .slice da R dc]) := by rw [HRL.out]; exact hg2
  have HX2 : Hid (Owns B w5 (.slice (some ⟨gx, 0, none⟩) (L + 1) cap) (k.xs ++ [v])) := hx2
  have HR2 : Hid (PIn Q w5 rv2 k.rest) := hr2
  have HD2 : Hid (Owns B w5 (.slice da R dc) k.read) := by rw [HRL.out]; exact hd2
  have HA2 : Hid ((Value.slice (some ⟨gx, 0, none⟩) (L + 1) cap).ownBlock = none ∨ (Value.slice (some ⟨gx, 0, none⟩) (L + 1) cap).ownBlock ≠ (Value.slice da R dc).ownBlock) := by rw [HRL.out]; exact ha2
  have hgl6 : g < w5.heap.size := cell_lt t5
  clear hg2 hx2 hr2 hd2 ha2 hB2 HG HX HR HD HA
  go_wp2_with (at_builtin; refine wpList_append_lies _ rfl _ _ 23 rfl B 3 i0 (.int .i64 0) 1 8 Tryz.underlying23 hi0 hz0 hz1 hz2 rfl (by decide) _ _ _ rfl hds ⟨w5.heap.size, 0, none⟩ 1 1 [.int .i64 x] rfl rfl (one_cell w5 x) (one_one x) (by decide) ?c3 ?c4 ?c5 (w5.heap.size + 1) (by simp) ?_)
  case c3 => unfold maxLen; omega
  case c4 => omega
  case c5 => simp; omega
  intro gy cap2 w6 hown hgr hat hlt
  obtain ⟨hl1, hl2, hg3, hk2⟩ := WkAt.byte (k := { k with xs := k.xs ++ [v] }) (.cells #[.int .i64 x] 3) hQ HG2.out hB HR2.out HX2.out HD2.out HA2.out hown (by rw [HRL.out]) hgr hat
  have s3 : w6.cell? ⟨g, 3, none⟩ = some (.slice da R dc) := Blk.cell hg3 3 rfl
  have f3 : w6.frozen? ⟨g, 3, none⟩ = false := Blk.frozen hg3 3
  have s2 : w6.cell? ⟨g, 2, none⟩ = some (.slice (some ⟨gx, 0, none⟩) (L + 1) cap) := Blk.cell hg3 2 rfl
  have t2 := cell_other (v := Value.slice (some ⟨gy, 0, none⟩) (R + 1) cap2) (g := g) (j := 3) s2 (.inr (by show 2 ≠ 3; decide))
  have HL1 : Hid (WkAt _ _ _ _ _) := hl1
  have HL2 : Hid (Below _ _ _) := HB5.out.trans (hl2.mono (Nat.le_refl _))
  have HK : Hid (Kept w _) := HK5.out.trans hk2
  clear hown hgr hat hlt hl1 hl2 hg3 hk2 HK5 hds d3 t5 HG2 HX2 HR2 HD2 HA2
  go_upto_region 6 with fail
  generalize hW7 : w6.setCell ⟨g, 3, none⟩ (Value.slice (some ⟨gy, 0, none⟩) (R + 1) cap2) = W7 at t2 HL1 HL2 HK ⊢
  clear hW7 s2 s3 f3 HB5
  have hcap : L + 1 ≤ cap := by
    obtain ⟨rv2, xv2, dv2, hg2, hB2, hr2, hx2, hd2, ha2⟩ := HL1.out
    obtain rfl : xv2 = _ := Option.some.inj ((Blk.cell hg2 2 rfl).symm.trans t2)
    obtain ⟨_, _, _, h3, h4, -⟩ := own_some' hx2 (by simp)
    rw [← h3] at h4; exact h4
  have hfin : WkAt Q B (W7.setCell ⟨g, 2, none⟩ (.slice (some ⟨gx, 0, none⟩) 0 cap)) g { k with xs := [], read := k.read ++ [x] } ∧ Below B W7 (W7.setCell ⟨g, 2, none⟩ (.slice (some ⟨gx, 0, none⟩) 0 cap)) ∧ Kept W7 (W7.setCell ⟨g, 2, none⟩ (.slice (some ⟨gx, 0, none⟩) 0 cap)) := by
    obtain ⟨rv2, xv2, dv2, hg2, hB2, hr2, hx2, hd2, ha2⟩ := HL1.out
    obtain rfl : xv2 = _ := Option.some.inj ((Blk.cell hg2 2 rfl).symm.trans t2)
    exact WkAt.forget (k := { k with xs := k.xs ++ [v], read := k.read ++ [x] }) hQ hg2 hB hr2 (own_zero hx2) hd2 ha2
  have f2 : W7.frozen? ⟨g, 2, none⟩ = false := by
    obtain ⟨rv2, xv2, dv2, hg2, -⟩ := HL1.out
    exact Blk.frozen hg2 2
  have HF1 : Hid (WkAt _ _ _ _ _) := hfin.1
  have HF2 : Hid (Below _ _ _) := HL2.out.trans hfin.2.1
  have HF3 : Hid (Kept w _) := HK.out.trans hfin.2.2
  have hc0 : (0 : Int) ≤ (cap : Int) := by omega
  clear hfin HL1 HL2
  go_wp2
  rw [HXV.out]
  exact bodyPost_end (results_none rfl _ _ _) rfl ⟨rfl, HF1.out, HF2.out, HF3.out⟩

/-- What the chip said is taken into the byte that comes. -/
theorem whear_any (Q : Nat → Prop) (B g : Nat) (k : Wk) (l : Int) (y : Nat) (w : World) (hQ : ∀ j, Q j → j < B) (h : WkAt Q B w g k) (hl : l = 1 ∨ l = 4) (hlen : k.xs.length < bcI l) (hrd : k.read.length ≤ 1000000000000) :
    Calls Tryz.prog 100 #[.pointer (some ⟨g, 0, none⟩), .int .i64 (y : Int), .int .i64 l] w fun e w' => e = .returned (.tuple #[]) ∧ WkAt Q B w' g (k.heard l y) ∧ Below B w w' ∧ Kept w w' := by
  unfold Wk.heard
  rw [List.length_append, show ([bitV l y] : List Int).length = 1 from rfl]
  rcases hl with rfl | rfl
  · rw [bc_one] at hlen ⊢
    by_cases hm : k.xs.length + 1 < 8
    · rw [if_pos hm]; exact hear_one_more Q B g k y w hQ h hm hrd
    · rw [if_neg hm]; exact hear_one_full Q B g k y w hQ h (by omega) hrd
  · rw [bc_four] at hlen ⊢
    by_cases hm : k.xs.length + 1 < 2
    · rw [if_pos hm]; exact hear_four_more Q B g k y w hQ h hm hrd
    · rw [if_neg hm]; exact hear_four_full Q B g k y w hQ h (by omega) hrd
end Go.Proofs.YtjhjghakfedeeaaGreat
end

/-! A clock ends: the program's call. Conditions: fewer bytes than memory bears. -/
section
namespace Go.Proofs.YtjhjghakfedeeaaGreat
open Go.RowKit Plain
set_option linter.unusedVariables false

theorem clocks_lit (p : Ph) (a : Option Addr) (n cap : Nat) (w : World) (hn : n = p.2.1.length) (hp : okP p = true) (m : Nat) (hm : nP p = m) :
    Calls Tryz.prog 55 #[.agg #[.int .i64 p.1, .slice a n cap, .int .i64 p.2.2.1, .int .i64 p.2.2.2]] w fun e w' => e = .returned (.int .i64 (m : Int)) ∧ Below w.heap.size w w' := by
  have hb := okP_bounds hp
  subst hn hm
  exact clocks_any p.1 p.2.2.1 p.2.2.2 a p.2.1.length cap w hb.1 ⟨hb.2.1, hb.2.2.1⟩ ⟨hb.2.2.2.1, hb.2.2.2.2⟩
theorem heard_gone (k : Wk) (l : Int) (y : Nat) : (k.heard l y).gone = k.gone := by unfold Wk.heard; split <;> rfl
theorem heard_rest (k : Wk) (l : Int) (y : Nat) : (k.heard l y).rest = k.rest := by unfold Wk.heard; split <;> rfl

set_option maxRecDepth 100000 in
set_option maxHeartbeats 4000000 in
theorem step_read_on (Q : Nat → Prop) (B g : Nat) (k : Wk) (p : Ph) (y : Nat) (w : World) (hQ : ∀ j, Q j → j < B) (h : WkAt Q B w g k) (hrest : k.rest = p :: k.rest.tail) (hok : okP p = true) (hgone : k.gone < nP p)
    (hread : 0 < p.2.2.2) (hend : k.gone + 1 ≠ nP p) (hl : p.1 = 1 ∨ p.1 = 4) (hlen : k.xs.length < bcI p.1) (hrd : k.read.length ≤ 1000000000000) :
    Calls Tryz.prog 60 #[.pointer (some ⟨g, 0, none⟩), .int .i64 (y : Int)] w fun e w' => e = .returned (.tuple #[]) ∧ WkAt Q B w' g (k.stepped p y) ∧ Below B w w' := by
  have HE : Hid (k.stepped p y = { (k.heard p.1 y) with gone := k.gone + 1 }) := by
    rw [Hid, Wk.stepped, if_pos hread]
    unfold Wk.ended
    rw [heard_gone, if_neg hend]
  have HW : Hid (WkAt Q B w g k) := h
  obtain ⟨rv, xv, dv, hg, hB, hr, hx, hd, ha⟩ := h
  rw [hrest] at hr
  obtain ⟨a, cap, rfl, hcap1, hr⟩ := hr
  obtain ⟨gr, o, rfl, hq, hc⟩ := hr (by simp)
  obtain ⟨bv, r1, x1, x2, x3, x4⟩ := hc 0 p rfl
  obtain ⟨ba, bc, rfl, -⟩ := id r1
  obtain ⟨m, hm⟩ : ∃ m, k.rest.tail.length = m := ⟨_, rfl⟩
  rw [List.length_cons, hm] at hcap1 hg
  obtain ⟨L, HL⟩ : ∃ L, Hid (L = p.2.1.length) := ⟨_, rfl⟩
  obtain ⟨M, HM⟩ : ∃ M, Hid (nP p = M) := ⟨_, rfl⟩
  obtain ⟨G, HGo⟩ : ∃ G, Hid (k.gone = G) := ⟨_, rfl⟩
  rw [← HL.out] at x2
  rw [HM.out, HGo.out] at hgone hend
  have c0 : w.cell? ⟨g, 0, none⟩ = some (.slice (some ⟨gr, o, none⟩) (m + 1) cap) := Blk.cell hg 0 rfl
  rw [Nat.zero_mul, Nat.add_zero] at x1 x2 x3 x4
  obtain ⟨W, hW⟩ : ∃ W, W = w.alloc (.cells #[.int .i64 p.1, .slice ba L bc, .int .i64 p.2.2.1, .int .i64 p.2.2.2] 49) := ⟨_, rfl⟩
  have bW : Below w.heap.size w W := by rw [hW]; exact below_new _ _
  have kW : Blk W w.heap.size 49 [.int .i64 p.1, .slice ba L bc, .int .i64 p.2.2.1, .int .i64 p.2.2.2] := by rw [hW]; exact Blk.new w 49 _ _ rfl
  have HKW : Hid (Blk W w.heap.size 49 [.int .i64 p.1, .slice ba L bc, .int .i64 p.2.2.1, .int .i64 p.2.2.2]) := kW
  have HW1 : Hid (WkAt Q B W g k) := HW.out.below bW
  have hgl : g < w.heap.size := cell_lt c0
  have HB1 : Hid (Below B w W) := bW.mono (by omega)
  have HOK : Hid (okP p = true) := hok
  have HM1 : Hid (k.rest.tail.length = m) := hm
  have HRE : Hid (k.rest = p :: k.rest.tail) := hrest
  have hM : M ≤ 4096 := by rw [← HM.out]; exact (nP_pos hok).2
  have HC0 : Hid (w.cell? ⟨g, 0, none⟩ = some (.slice (some ⟨gr, o, none⟩) (m + 1) cap)) := c0
  obtain ⟨c, HC⟩ : ∃ c, Hid (w.heap.size = c) := ⟨_, rfl⟩
  clear hc hr hm hx hd ha hg r1 hq hok hB hrest kW
  go_enter Tryz.func60, Tryz.ntmps60
  go_upto_region 1 with fail
  rw [← hW]
  have k0 : W.cell? ⟨w.heap.size, 0, none⟩ = some (.int .i64 p.1) := Blk.cell HKW.out 0 rfl
  have k3 : W.cell? ⟨w.heap.size, 3, none⟩ = some (.int .i64 p.2.2.2) := Blk.cell HKW.out 3 rfl
  clear hW c0 x1 x2 x3 x4 bW
  go_wp2_with fail
  refine (whear_any Q B g k p.1 y W hQ HW1.out hl hlen hrd).mono ?_
  rintro e w1 ⟨rfl, h1, b1, kp1⟩
  have HK2 : Hid (Blk w1 w.heap.size 49 [.int .i64 p.1, .slice ba L bc, .int .i64 p.2.2.1, .int .i64 p.2.2.2]) := kp1.blk HKW.out
  have HB2 : Hid (Below B w w1) := HB1.out.trans b1
  obtain ⟨K, hK⟩ : ∃ K, k.heard p.1 y = K := ⟨_, rfl⟩
  have HKg : Hid (K.gone = G) := by rw [Hid, ← hK, heard_gone, HGo.out]
  have HKr : Hid (K.rest = k.rest) := by rw [Hid, ← hK, heard_rest]
  rw [hK] at h1 HE
  have HW2 : Hid (WkAt Q B w1 g K) := h1
  clear h1 b1 kp1 hK HW1 HB1 HKW k0 k3
  have HRK : Hid (K.rest = p :: K.rest.tail) := by rw [Hid, HKr.out]; exact HRE.out
  have HMK : Hid (K.rest.tail.length = m) := by rw [Hid, HKr.out]; exact HM1.out
  have g0 : w1.cell? ⟨g, 0, none⟩ = some (.slice (some ⟨gr, o, none⟩) (m + 1) cap) ∨ True := .inr trivial
  have g1 : w1.cell? ⟨g, 1, none⟩ = some (.int .i64 (G : Int)) := by
    obtain ⟨rv2, xv2, dv2, hg2, -⟩ := HW2.out
    rw [← HKg.out]; exact Blk.cell hg2 1 rfl
  have f1 : w1.frozen? ⟨g, 1, none⟩ = false := by
    obtain ⟨rv2, xv2, dv2, hg2, -⟩ := HW2.out
    exact Blk.frozen hg2 1
  have HT := WkAt.tick (m := G + 1) hQ HW2.out
  rw [show ((G + 1 : Nat) : Int) = (G : Int) + 1 from by push_cast; rfl] at HT
  have HW3 : Hid (WkAt _ _ _ _ _) := HT.1
  have HB3 : Hid (Below B w _) := HB2.out.trans HT.2.1
  have HK3 : Hid (Blk _ w.heap.size 49 _) := HT.2.2.blk HK2.out
  have t1 := cell_set (v := Value.int .i64 ((G : Int) + 1)) g1
  clear HT HB2 HK2 HW2
  rw [HC.out] at HK3 ⊢
  go_upto_region 4 with fail
  generalize w1.setCell ⟨g, 1, none⟩ (Value.int .i64 ((G : Int) + 1)) = W3 at HW3 HB3 HK3 t1 ⊢
  clear g0 g1 f1
  have k0 : W3.cell? ⟨c, 0, none⟩ = some (.int .i64 p.1) := Blk.cell HK3.out 0 rfl
  have k1 : W3.cell? ⟨c, 1, none⟩ = some (.slice ba L bc) := Blk.cell HK3.out 1 rfl
  have k2 : W3.cell? ⟨c, 2, none⟩ = some (.int .i64 p.2.2.1) := Blk.cell HK3.out 2 rfl
  have k3 : W3.cell? ⟨c, 3, none⟩ = some (.int .i64 p.2.2.2) := Blk.cell HK3.out 3 rfl
  have hdec : ((G : Int) + 1 == (M : Int)) = false := by apply beq_eq_false_iff_ne.2; omega
  go_region_held3 (fun z => z.cell? ⟨g, 1, none⟩ = some (.int .i64 ((G : Int) + 1)) ∧ z.cell? ⟨c, 0, none⟩ = some (.int .i64 p.1) ∧ z.cell? ⟨c, 1, none⟩ = some (.slice ba L bc) ∧ z.cell? ⟨c, 2, none⟩ = some (.int .i64 p.2.2.1) ∧ z.cell? ⟨c, 3, none⟩ = some (.int .i64 p.2.2.2)) (first | exact ⟨t1, k0, k1, k2, k3⟩ | exact ⟨(b4.cell (cell_lt t1)).trans t1, (b4.cell (cell_lt k0)).trans k0, (b4.cell (cell_lt k1)).trans k1, (b4.cell (cell_lt k2)).trans k2, (b4.cell (cell_lt k3)).trans k3⟩) (first | (go_at_call 55; refine (clocks_lit p ba L bc _ HL.out HOK.out M HM.out).mono ?_; rintro e w4 ⟨rfl, b4⟩))
  have b5 : Below W3.heap.size W3 w4 := (below_drewN (Below.refl W3.heap.size W3) 1).trans b4
  have HW4 : Hid (WkAt Q B w4 g { K with gone := G + 1 }) := HW3.out.below b5
  have hsz3 := cell_lt t1
  have hgB : B ≤ g := by
    obtain ⟨rv2, xv2, dv2, hg2, hB2, -⟩ := HW3.out
    exact hB2
  have hgs3 : g < W3.heap.size := hsz3
  have HB4 : Hid (Below B w w4) := HB3.out.trans (b5.mono (by omega))
  rename_i hHeld_
  clear hHeld_ b4 b5 HW3 HB3 HK3 t1 k0 k1 k2 k3
  go_wp2
  go_end0
  rw [HE.out, HGo.out]
  exact ⟨rfl, HW4.out, HB4.out⟩

set_option maxRecDepth 100000 in
set_option maxHeartbeats 4000000 in
theorem step_read_end (Q : Nat → Prop) (B g : Nat) (k : Wk) (p : Ph) (y : Nat) (w : World) (hQ : ∀ j, Q j → j < B) (h : WkAt Q B w g k) (hrest : k.rest = p :: k.rest.tail) (hok : okP p = true) (hgone : k.gone < nP p)
    (hread : 0 < p.2.2.2) (hend : k.gone + 1 = nP p) (hl : p.1 = 1 ∨ p.1 = 4) (hlen : k.xs.length < bcI p.1) (hrd : k.read.length ≤ 1000000000000) :
    Calls Tryz.prog 60 #[.pointer (some ⟨g, 0, none⟩), .int .i64 (y : Int)] w fun e w' => e = .returned (.tuple #[]) ∧ WkAt Q B w' g (k.stepped p y) ∧ Below B w w' := by
  have HE : Hid (k.stepped p y = { (k.heard p.1 y) with rest := (k.heard p.1 y).rest.tail, gone := 0, xs := [] }) := by
    rw [Hid, Wk.stepped, if_pos hread]
    unfold Wk.ended
    rw [heard_gone, if_pos hend]
  have HW : Hid (WkAt Q B w g k) := h
  obtain ⟨rv, xv, dv, hg, hB, hr, hx, hd, ha⟩ := h
  rw [hrest] at hr
  obtain ⟨a, cap, rfl, hcap1, hr⟩ := hr
  obtain ⟨gr, o, rfl, hq, hc⟩ := hr (by simp)
  obtain ⟨bv, r1, x1, x2, x3, x4⟩ := hc 0 p rfl
  obtain ⟨ba, bc, rfl, -⟩ := id r1
  obtain ⟨m, hm⟩ : ∃ m, k.rest.tail.length = m := ⟨_, rfl⟩
  rw [List.length_cons, hm] at hcap1 hg
  obtain ⟨L, HL⟩ : ∃ L, Hid (L = p.2.1.length) := ⟨_, rfl⟩
  obtain ⟨M, HM⟩ : ∃ M, Hid (nP p = M) := ⟨_, rfl⟩
  obtain ⟨G, HGo⟩ : ∃ G, Hid (k.gone = G) := ⟨_, rfl⟩
  rw [← HL.out] at x2
  rw [HM.out, HGo.out] at hgone hend
  have c0 : w.cell? ⟨g, 0, none⟩ = some (.slice (some ⟨gr, o, none⟩) (m + 1) cap) := Blk.cell hg 0 rfl
  rw [Nat.zero_mul, Nat.add_zero] at x1 x2 x3 x4
  obtain ⟨W, hW⟩ : ∃ W, W = w.alloc (.cells #[.int .i64 p.1, .slice ba L bc, .int .i64 p.2.2.1, .int .i64 p.2.2.2] 49) := ⟨_, rfl⟩
  have bW : Below w.heap.size w W := by rw [hW]; exact below_new _ _
  have kW : Blk W w.heap.size 49 [.int .i64 p.1, .slice ba L bc, .int .i64 p.2.2.1, .int .i64 p.2.2.2] := by rw [hW]; exact Blk.new w 49 _ _ rfl
  have HKW : Hid (Blk W w.heap.size 49 [.int .i64 p.1, .slice ba L bc, .int .i64 p.2.2.1, .int .i64 p.2.2.2]) := kW
  have HW1 : Hid (WkAt Q B W g k) := HW.out.below bW
  have hgl : g < w.heap.size := cell_lt c0
  have HB1 : Hid (Below B w W) := bW.mono (by omega)
  have HOK : Hid (okP p = true) := hok
  have HM1 : Hid (k.rest.tail.length = m) := hm
  have HRE : Hid (k.rest = p :: k.rest.tail) := hrest
  have hM : M ≤ 4096 := by rw [← HM.out]; exact (nP_pos hok).2
  have HC0 : Hid (w.cell? ⟨g, 0, none⟩ = some (.slice (some ⟨gr, o, none⟩) (m + 1) cap)) := c0
  obtain ⟨c, HC⟩ : ∃ c, Hid (w.heap.size = c) := ⟨_, rfl⟩
  clear hc hr hm hx hd ha hg r1 hq hok hB hrest kW
  go_enter Tryz.func60, Tryz.ntmps60
  go_upto_region 1 with fail
  rw [← hW]
  have k0 : W.cell? ⟨w.heap.size, 0, none⟩ = some (.int .i64 p.1) := Blk.cell HKW.out 0 rfl
  have k3 : W.cell? ⟨w.heap.size, 3, none⟩ = some (.int .i64 p.2.2.2) := Blk.cell HKW.out 3 rfl
  clear hW c0 x1 x2 x3 x4 bW
  go_wp2_with fail
  refine (whear_any Q B g k p.1 y W hQ HW1.out hl hlen hrd).mono ?_
  rintro e w1 ⟨rfl, h1, b1, kp1⟩
  have HK2 : Hid (Blk w1 w.heap.size 49 [.int .i64 p.1, .slice ba L bc, .int .i64 p.2.2.1, .int .i64 p.2.2.2]) := kp1.blk HKW.out
  have HB2 : Hid (Below B w w1) := HB1.out.trans b1
  obtain ⟨K, hK⟩ : ∃ K, k.heard p.1 y = K := ⟨_, rfl⟩
  have HKg : Hid (K.gone = G) := by rw [Hid, ← hK, heard_gone, HGo.out]
  have HKr : Hid (K.rest = k.rest) := by rw [Hid, ← hK, heard_rest]
  rw [hK] at h1 HE
  have HW2 : Hid (WkAt Q B w1 g K) := h1
  clear h1 b1 kp1 hK HW1 HB1 HKW k0 k3
  have HRK : Hid (K.rest = p :: K.rest.tail) := by rw [Hid, HKr.out]; exact HRE.out
  have HMK : Hid (K.rest.tail.length = m) := by rw [Hid, HKr.out]; exact HM1.out
  have g0 : w1.cell? ⟨g, 0, none⟩ = some (.slice (some ⟨gr, o, none⟩) (m + 1) cap) ∨ True := .inr trivial
  have g1 : w1.cell? ⟨g, 1, none⟩ = some (.int .i64 (G : Int)) := by
    obtain ⟨rv2, xv2, dv2, hg2, -⟩ := HW2.out
    rw [← HKg.out]; exact Blk.cell hg2 1 rfl
  have f1 : w1.frozen? ⟨g, 1, none⟩ = false := by
    obtain ⟨rv2, xv2, dv2, hg2, -⟩ := HW2.out
    exact Blk.frozen hg2 1
  have HT := WkAt.tick (m := G + 1) hQ HW2.out
  rw [show ((G + 1 : Nat) : Int) = (G : Int) + 1 from by push_cast; rfl] at HT
  have HW3 : Hid (WkAt _ _ _ _ _) := HT.1
  have HB3 : Hid (Below B w _) := HB2.out.trans HT.2.1
  have HK3 : Hid (Blk _ w.heap.size 49 _) := HT.2.2.blk HK2.out
  have t1 := cell_set (v := Value.int .i64 ((G : Int) + 1)) g1
  clear HT HB2 HK2 HW2
  rw [HC.out] at HK3 ⊢
  go_upto_region 4 with fail
  generalize w1.setCell ⟨g, 1, none⟩ (Value.int .i64 ((G : Int) + 1)) = W3 at HW3 HB3 HK3 t1 ⊢
  clear g0 g1 f1
  have k0 : W3.cell? ⟨c, 0, none⟩ = some (.int .i64 p.1) := Blk.cell HK3.out 0 rfl
  have k1 : W3.cell? ⟨c, 1, none⟩ = some (.slice ba L bc) := Blk.cell HK3.out 1 rfl
  have k2 : W3.cell? ⟨c, 2, none⟩ = some (.int .i64 p.2.2.1) := Blk.cell HK3.out 2 rfl
  have k3 : W3.cell? ⟨c, 3, none⟩ = some (.int .i64 p.2.2.2) := Blk.cell HK3.out 3 rfl
  have hdec : ((G : Int) + 1 == (M : Int)) = true := by apply beq_iff_eq.2; omega
  go_region_held3 (fun z => z.cell? ⟨g, 1, none⟩ = some (.int .i64 ((G : Int) + 1)) ∧ z.cell? ⟨c, 0, none⟩ = some (.int .i64 p.1) ∧ z.cell? ⟨c, 1, none⟩ = some (.slice ba L bc) ∧ z.cell? ⟨c, 2, none⟩ = some (.int .i64 p.2.2.1) ∧ z.cell? ⟨c, 3, none⟩ = some (.int .i64 p.2.2.2)) (first | exact ⟨t1, k0, k1, k2, k3⟩ | exact ⟨(b4.cell (cell_lt t1)).trans t1, (b4.cell (cell_lt k0)).trans k0, (b4.cell (cell_lt k1)).trans k1, (b4.cell (cell_lt k2)).trans k2, (b4.cell (cell_lt k3)).trans k3⟩) (first | (go_at_call 55; refine (clocks_lit p ba L bc _ HL.out HOK.out M HM.out).mono ?_; rintro e w4 ⟨rfl, b4⟩))
  have b5 : Below W3.heap.size W3 w4 := (below_drewN (Below.refl W3.heap.size W3) 1).trans b4
  have HW4 : Hid (WkAt Q B w4 g { K with gone := G + 1 }) := HW3.out.below b5
  have hsz3 := cell_lt t1
  have hgB : B ≤ g := by
    obtain ⟨rv2, xv2, dv2, hg2, hB2, -⟩ := HW3.out
    exact hB2
  have hgs3 : g < W3.heap.size := hsz3
  have HB4 : Hid (Below B w w4) := HB3.out.trans (b5.mono (by omega))
  rename_i hHeld_
  clear hHeld_ b4 b5 HW3 HB3 HK3 t1 k0 k1 k2 k3
  have q0 : ∃ gr2 o2 cap2, m + 1 ≤ cap2 ∧ w4.cell? ⟨g, 0, none⟩ = some (.slice (some ⟨gr2, o2, none⟩) (m + 1) cap2) := by
    obtain ⟨rv2, xv2, dv2, hg2, hB2, hr2, -⟩ := HW4.out
    rw [show ({ K with gone := G + 1 } : Wk).rest = p :: K.rest.tail from HRK.out] at hr2
    obtain ⟨a2, cap2, rfl, hcap2, hr2⟩ := hr2
    obtain ⟨gr2, o2, rfl, -⟩ := hr2 (by simp)
    rw [List.length_cons, HMK.out] at hg2 hcap2
    exact ⟨gr2, o2, cap2, hcap2, Blk.cell hg2 0 rfl⟩
  obtain ⟨gr2, o2, cap2, hcap2, q0⟩ := q0
  have q1 : w4.cell? ⟨g, 1, none⟩ = some (.int .i64 ((G : Int) + 1)) := by
    obtain ⟨rv2, xv2, dv2, hg2, -⟩ := HW4.out
    exact Blk.cell hg2 1 rfl
  have q2 : ∃ v, w4.cell? ⟨g, 2, none⟩ = some v := by
    obtain ⟨rv2, xv2, dv2, hg2, -⟩ := HW4.out
    exact ⟨_, Blk.cell hg2 2 rfl⟩
  obtain ⟨v2, q2⟩ := q2
  have f0 : w4.frozen? ⟨g, 0, none⟩ = false := by
    obtain ⟨rv2, xv2, dv2, hg2, -⟩ := HW4.out
    exact Blk.frozen hg2 0
  have f1 : w4.frozen? ⟨g, 1, none⟩ = false := by
    obtain ⟨rv2, xv2, dv2, hg2, -⟩ := HW4.out
    exact Blk.frozen hg2 1
  have f2 : w4.frozen? ⟨g, 2, none⟩ = false := by
    obtain ⟨rv2, xv2, dv2, hg2, -⟩ := HW4.out
    exact Blk.frozen hg2 2
  have HQ0 : Hid (w4.cell? ⟨g, 0, none⟩ = some (.slice (some ⟨gr2, o2, none⟩) (m + 1) cap2)) := q0
  by_cases h1 : cap2 = 1
  · subst h1
    have hm0 : m = 0 := by omega
    subst hm0
    have HN := WkAt.next (gr' := gr2) (o' := o2) (cap' := 0) hQ HW4.out HRK.out HMK.out HQ0.out (Nat.le_refl _) (fun h => absurd h (Nat.lt_irrefl _))
    have HN : Hid (_ ∧ _) := HN
    go_wp2
    go_end0
    rw [HE.out]
    exact ⟨rfl, HN.out.1, HB4.out.trans HN.out.2⟩
  · have HN := WkAt.next (gr' := gr2) (o' := o2 + 4) (cap' := cap2 - 1) hQ HW4.out HRK.out HMK.out HQ0.out (by omega) (fun _ => ⟨rfl, rfl⟩)
    have HN : Hid (_ ∧ _) := HN
    go_wp2
    go_end0
    rw [HE.out]
    exact ⟨rfl, HN.out.1, HB4.out.trans HN.out.2⟩

set_option maxRecDepth 100000 in
set_option maxHeartbeats 4000000 in
theorem step_still_on (Q : Nat → Prop) (B g : Nat) (k : Wk) (p : Ph) (y : Nat) (w : World) (hQ : ∀ j, Q j → j < B) (h : WkAt Q B w g k) (hrest : k.rest = p :: k.rest.tail) (hok : okP p = true) (hgone : k.gone < nP p)
    (hread : ¬ 0 < p.2.2.2) (hend : k.gone + 1 ≠ nP p) :
    Calls Tryz.prog 60 #[.pointer (some ⟨g, 0, none⟩), .int .i64 (y : Int)] w fun e w' => e = .returned (.tuple #[]) ∧ WkAt Q B w' g (k.stepped p y) ∧ Below B w w' := by
  have HE : Hid (k.stepped p y = { k with gone := k.gone + 1 }) := by
    rw [Hid, Wk.stepped, if_neg hread]
    unfold Wk.ended
    rw [if_neg hend]
  have HW : Hid (WkAt Q B w g k) := h
  obtain ⟨rv, xv, dv, hg, hB, hr, hx, hd, ha⟩ := h
  rw [hrest] at hr
  obtain ⟨a, cap, rfl, hcap1, hr⟩ := hr
  obtain ⟨gr, o, rfl, hq, hc⟩ := hr (by simp)
  obtain ⟨bv, r1, x1, x2, x3, x4⟩ := hc 0 p rfl
  obtain ⟨ba, bc, rfl, -⟩ := id r1
  obtain ⟨m, hm⟩ : ∃ m, k.rest.tail.length = m := ⟨_, rfl⟩
  rw [List.length_cons, hm] at hcap1 hg
  obtain ⟨L, HL⟩ : ∃ L, Hid (L = p.2.1.length) := ⟨_, rfl⟩
  obtain ⟨M, HM⟩ : ∃ M, Hid (nP p = M) := ⟨_, rfl⟩
  obtain ⟨G, HGo⟩ : ∃ G, Hid (k.gone = G) := ⟨_, rfl⟩
  rw [← HL.out] at x2
  rw [HM.out, HGo.out] at hgone hend
  have c0 : w.cell? ⟨g, 0, none⟩ = some (.slice (some ⟨gr, o, none⟩) (m + 1) cap) := Blk.cell hg 0 rfl
  rw [Nat.zero_mul, Nat.add_zero] at x1 x2 x3 x4
  obtain ⟨W, hW⟩ : ∃ W, W = w.alloc (.cells #[.int .i64 p.1, .slice ba L bc, .int .i64 p.2.2.1, .int .i64 p.2.2.2] 49) := ⟨_, rfl⟩
  have bW : Below w.heap.size w W := by rw [hW]; exact below_new _ _
  have kW : Blk W w.heap.size 49 [.int .i64 p.1, .slice ba L bc, .int .i64 p.2.2.1, .int .i64 p.2.2.2] := by rw [hW]; exact Blk.new w 49 _ _ rfl
  have HKW : Hid (Blk W w.heap.size 49 [.int .i64 p.1, .slice ba L bc, .int .i64 p.2.2.1, .int .i64 p.2.2.2]) := kW
  have HW1 : Hid (WkAt Q B W g k) := HW.out.below bW
  have hgl : g < w.heap.size := cell_lt c0
  have HB1 : Hid (Below B w W) := bW.mono (by omega)
  have HOK : Hid (okP p = true) := hok
  have HM1 : Hid (k.rest.tail.length = m) := hm
  have HRE : Hid (k.rest = p :: k.rest.tail) := hrest
  have hM : M ≤ 4096 := by rw [← HM.out]; exact (nP_pos hok).2
  have HC0 : Hid (w.cell? ⟨g, 0, none⟩ = some (.slice (some ⟨gr, o, none⟩) (m + 1) cap)) := c0
  obtain ⟨c, HC⟩ : ∃ c, Hid (w.heap.size = c) := ⟨_, rfl⟩
  clear hc hr hm hx hd ha hg r1 hq hok hB hrest kW
  go_enter Tryz.func60, Tryz.ntmps60
  go_upto_region 1 with fail
  rw [← hW]
  have k0 : W.cell? ⟨w.heap.size, 0, none⟩ = some (.int .i64 p.1) := Blk.cell HKW.out 0 rfl
  have k3 : W.cell? ⟨w.heap.size, 3, none⟩ = some (.int .i64 p.2.2.2) := Blk.cell HKW.out 3 rfl
  clear hW c0 x1 x2 x3 x4 bW
  obtain ⟨w1, hw1⟩ : ∃ w1, w1 = W := ⟨_, rfl⟩
  obtain ⟨K, hK⟩ : ∃ K, k = K := ⟨_, rfl⟩
  go_upto_region 3 with fail
  have HK2 : Hid (Blk w1 w.heap.size 49 [.int .i64 p.1, .slice ba L bc, .int .i64 p.2.2.1, .int .i64 p.2.2.2]) := by rw [hw1]; exact HKW.out
  have HB2 : Hid (Below B w w1) := by rw [hw1]; exact HB1.out
  have HKg : Hid (K.gone = G) := by rw [← hK]; exact HGo.out
  have HKr : Hid (K.rest = k.rest) := by rw [hK]; rfl
  have HW2 : Hid (WkAt Q B w1 g K) := by rw [hw1, ← hK]; exact HW1.out
  rw [← hw1]
  have HE : Hid (k.stepped p y = { K with gone := k.gone + 1 }) := by rw [HE.out, hK]; rfl
  clear hw1 hK HW1 HB1 HKW k0 k3
  have HRK : Hid (K.rest = p :: K.rest.tail) := by rw [Hid, HKr.out]; exact HRE.out
  have HMK : Hid (K.rest.tail.length = m) := by rw [Hid, HKr.out]; exact HM1.out
  have g0 : w1.cell? ⟨g, 0, none⟩ = some (.slice (some ⟨gr, o, none⟩) (m + 1) cap) ∨ True := .inr trivial
  have g1 : w1.cell? ⟨g, 1, none⟩ = some (.int .i64 (G : Int)) := by
    obtain ⟨rv2, xv2, dv2, hg2, -⟩ := HW2.out
    rw [← HKg.out]; exact Blk.cell hg2 1 rfl
  have f1 : w1.frozen? ⟨g, 1, none⟩ = false := by
    obtain ⟨rv2, xv2, dv2, hg2, -⟩ := HW2.out
    exact Blk.frozen hg2 1
  have HT := WkAt.tick (m := G + 1) hQ HW2.out
  rw [show ((G + 1 : Nat) : Int) = (G : Int) + 1 from by push_cast; rfl] at HT
  have HW3 : Hid (WkAt _ _ _ _ _) := HT.1
  have HB3 : Hid (Below B w _) := HB2.out.trans HT.2.1
  have HK3 : Hid (Blk _ w.heap.size 49 _) := HT.2.2.blk HK2.out
  have t1 := cell_set (v := Value.int .i64 ((G : Int) + 1)) g1
  clear HT HB2 HK2 HW2
  rw [HC.out] at HK3 ⊢
  go_upto_region 4 with fail
  generalize w1.setCell ⟨g, 1, none⟩ (Value.int .i64 ((G : Int) + 1)) = W3 at HW3 HB3 HK3 t1 ⊢
  clear g0 g1 f1
  have k0 : W3.cell? ⟨c, 0, none⟩ = some (.int .i64 p.1) := Blk.cell HK3.out 0 rfl
  have k1 : W3.cell? ⟨c, 1, none⟩ = some (.slice ba L bc) := Blk.cell HK3.out 1 rfl
  have k2 : W3.cell? ⟨c, 2, none⟩ = some (.int .i64 p.2.2.1) := Blk.cell HK3.out 2 rfl
  have k3 : W3.cell? ⟨c, 3, none⟩ = some (.int .i64 p.2.2.2) := Blk.cell HK3.out 3 rfl
  have hdec : ((G : Int) + 1 == (M : Int)) = false := by apply beq_eq_false_iff_ne.2; omega
  go_region_held3 (fun z => z.cell? ⟨g, 1, none⟩ = some (.int .i64 ((G : Int) + 1)) ∧ z.cell? ⟨c, 0, none⟩ = some (.int .i64 p.1) ∧ z.cell? ⟨c, 1, none⟩ = some (.slice ba L bc) ∧ z.cell? ⟨c, 2, none⟩ = some (.int .i64 p.2.2.1) ∧ z.cell? ⟨c, 3, none⟩ = some (.int .i64 p.2.2.2)) (first | exact ⟨t1, k0, k1, k2, k3⟩ | exact ⟨(b4.cell (cell_lt t1)).trans t1, (b4.cell (cell_lt k0)).trans k0, (b4.cell (cell_lt k1)).trans k1, (b4.cell (cell_lt k2)).trans k2, (b4.cell (cell_lt k3)).trans k3⟩) (first | (go_at_call 55; refine (clocks_lit p ba L bc _ HL.out HOK.out M HM.out).mono ?_; rintro e w4 ⟨rfl, b4⟩))
  have b5 : Below W3.heap.size W3 w4 := (below_drewN (Below.refl W3.heap.size W3) 1).trans b4
  have HW4 : Hid (WkAt Q B w4 g { K with gone := G + 1 }) := HW3.out.below b5
  have hsz3 := cell_lt t1
  have hgB : B ≤ g := by
    obtain ⟨rv2, xv2, dv2, hg2, hB2, -⟩ := HW3.out
    exact hB2
  have hgs3 : g < W3.heap.size := hsz3
  have HB4 : Hid (Below B w w4) := HB3.out.trans (b5.mono (by omega))
  rename_i hHeld_
  clear hHeld_ b4 b5 HW3 HB3 HK3 t1 k0 k1 k2 k3
  go_wp2
  go_end0
  rw [HE.out, HGo.out]
  exact ⟨rfl, HW4.out, HB4.out⟩

set_option maxRecDepth 100000 in
set_option maxHeartbeats 4000000 in
theorem step_still_end (Q : Nat → Prop) (B g : Nat) (k : Wk) (p : Ph) (y : Nat) (w : World) (hQ : ∀ j, Q j → j < B) (h : WkAt Q B w g k) (hrest : k.rest = p :: k.rest.tail) (hok : okP p = true) (hgone : k.gone < nP p)
    (hread : ¬ 0 < p.2.2.2) (hend : k.gone + 1 = nP p) :
    Calls Tryz.prog 60 #[.pointer (some ⟨g, 0, none⟩), .int .i64 (y : Int)] w fun e w' => e = .returned (.tuple #[]) ∧ WkAt Q B w' g (k.stepped p y) ∧ Below B w w' := by
  have HE : Hid (k.stepped p y = { k with rest := k.rest.tail, gone := 0, xs := [] }) := by
    rw [Hid, Wk.stepped, if_neg hread]
    unfold Wk.ended
    rw [if_pos hend]
  have HW : Hid (WkAt Q B w g k) := h
  obtain ⟨rv, xv, dv, hg, hB, hr, hx, hd, ha⟩ := h
  rw [hrest] at hr
  obtain ⟨a, cap, rfl, hcap1, hr⟩ := hr
  obtain ⟨gr, o, rfl, hq, hc⟩ := hr (by simp)
  obtain ⟨bv, r1, x1, x2, x3, x4⟩ := hc 0 p rfl
  obtain ⟨ba, bc, rfl, -⟩ := id r1
  obtain ⟨m, hm⟩ : ∃ m, k.rest.tail.length = m := ⟨_, rfl⟩
  rw [List.length_cons, hm] at hcap1 hg
  obtain ⟨L, HL⟩ : ∃ L, Hid (L = p.2.1.length) := ⟨_, rfl⟩
  obtain ⟨M, HM⟩ : ∃ M, Hid (nP p = M) := ⟨_, rfl⟩
  obtain ⟨G, HGo⟩ : ∃ G, Hid (k.gone = G) := ⟨_, rfl⟩
  rw [← HL.out] at x2
  rw [HM.out, HGo.out] at hgone hend
  have c0 : w.cell? ⟨g, 0, none⟩ = some (.slice (some ⟨gr, o, none⟩) (m + 1) cap) := Blk.cell hg 0 rfl
  rw [Nat.zero_mul, Nat.add_zero] at x1 x2 x3 x4
  obtain ⟨W, hW⟩ : ∃ W, W = w.alloc (.cells #[.int .i64 p.1, .slice ba L bc, .int .i64 p.2.2.1, .int .i64 p.2.2.2] 49) := ⟨_, rfl⟩
  have bW : Below w.heap.size w W := by rw [hW]; exact below_new _ _
  have kW : Blk W w.heap.size 49 [.int .i64 p.1, .slice ba L bc, .int .i64 p.2.2.1, .int .i64 p.2.2.2] := by rw [hW]; exact Blk.new w 49 _ _ rfl
  have HKW : Hid (Blk W w.heap.size 49 [.int .i64 p.1, .slice ba L bc, .int .i64 p.2.2.1, .int .i64 p.2.2.2]) := kW
  have HW1 : Hid (WkAt Q B W g k) := HW.out.below bW
  have hgl : g < w.heap.size := cell_lt c0
  have HB1 : Hid (Below B w W) := bW.mono (by omega)
  have HOK : Hid (okP p = true) := hok
  have HM1 : Hid (k.rest.tail.length = m) := hm
  have HRE : Hid (k.rest = p :: k.rest.tail) := hrest
  have hM : M ≤ 4096 := by rw [← HM.out]; exact (nP_pos hok).2
  have HC0 : Hid (w.cell? ⟨g, 0, none⟩ = some (.slice (some ⟨gr, o, none⟩) (m + 1) cap)) := c0
  obtain ⟨c, HC⟩ : ∃ c, Hid (w.heap.size = c) := ⟨_, rfl⟩
  clear hc hr hm hx hd ha hg r1 hq hok hB hrest kW
  go_enter Tryz.func60, Tryz.ntmps60
  go_upto_region 1 with fail
  rw [← hW]
  have k0 : W.cell? ⟨w.heap.size, 0, none⟩ = some (.int .i64 p.1) := Blk.cell HKW.out 0 rfl
  have k3 : W.cell? ⟨w.heap.size, 3, none⟩ = some (.int .i64 p.2.2.2) := Blk.cell HKW.out 3 rfl
  clear hW c0 x1 x2 x3 x4 bW
  obtain ⟨w1, hw1⟩ : ∃ w1, w1 = W := ⟨_, rfl⟩
  obtain ⟨K, hK⟩ : ∃ K, k = K := ⟨_, rfl⟩
  go_upto_region 3 with fail
  have HK2 : Hid (Blk w1 w.heap.size 49 [.int .i64 p.1, .slice ba L bc, .int .i64 p.2.2.1, .int .i64 p.2.2.2]) := by rw [hw1]; exact HKW.out
  have HB2 : Hid (Below B w w1) := by rw [hw1]; exact HB1.out
  have HKg : Hid (K.gone = G) := by rw [← hK]; exact HGo.out
  have HKr : Hid (K.rest = k.rest) := by rw [hK]; rfl
  have HW2 : Hid (WkAt Q B w1 g K) := by rw [hw1, ← hK]; exact HW1.out
  rw [← hw1]
  have HE : Hid (k.stepped p y = { K with rest := K.rest.tail, gone := 0, xs := [] }) := by rw [HE.out, hK]; rfl
  clear hw1 hK HW1 HB1 HKW k0 k3
  have HRK : Hid (K.rest = p :: K.rest.tail) := by rw [Hid, HKr.out]; exact HRE.out
  have HMK : Hid (K.rest.tail.length = m) := by rw [Hid, HKr.out]; exact HM1.out
  have g0 : w1.cell? ⟨g, 0, none⟩ = some (.slice (some ⟨gr, o, none⟩) (m + 1) cap) ∨ True := .inr trivial
  have g1 : w1.cell? ⟨g, 1, none⟩ = some (.int .i64 (G : Int)) := by
    obtain ⟨rv2, xv2, dv2, hg2, -⟩ := HW2.out
    rw [← HKg.out]; exact Blk.cell hg2 1 rfl
  have f1 : w1.frozen? ⟨g, 1, none⟩ = false := by
    obtain ⟨rv2, xv2, dv2, hg2, -⟩ := HW2.out
    exact Blk.frozen hg2 1
  have HT := WkAt.tick (m := G + 1) hQ HW2.out
  rw [show ((G + 1 : Nat) : Int) = (G : Int) + 1 from by push_cast; rfl] at HT
  have HW3 : Hid (WkAt _ _ _ _ _) := HT.1
  have HB3 : Hid (Below B w _) := HB2.out.trans HT.2.1
  have HK3 : Hid (Blk _ w.heap.size 49 _) := HT.2.2.blk HK2.out
  have t1 := cell_set (v := Value.int .i64 ((G : Int) + 1)) g1
  clear HT HB2 HK2 HW2
  rw [HC.out] at HK3 ⊢
  go_upto_region 4 with fail
  generalize w1.setCell ⟨g, 1, none⟩ (Value.int .i64 ((G : Int) + 1)) = W3 at HW3 HB3 HK3 t1 ⊢
  clear g0 g1 f1
  have k0 : W3.cell? ⟨c, 0, none⟩ = some (.int .i64 p.1) := Blk.cell HK3.out 0 rfl
  have k1 : W3.cell? ⟨c, 1, none⟩ = some (.slice ba L bc) := Blk.cell HK3.out 1 rfl
  have k2 : W3.cell? ⟨c, 2, none⟩ = some (.int .i64 p.2.2.1) := Blk.cell HK3.out 2 rfl
  have k3 : W3.cell? ⟨c, 3, none⟩ = some (.int .i64 p.2.2.2) := Blk.cell HK3.out 3 rfl
  have hdec : ((G : Int) + 1 == (M : Int)) = true := by apply beq_iff_eq.2; omega
  go_region_held3 (fun z => z.cell? ⟨g, 1, none⟩ = some (.int .i64 ((G : Int) + 1)) ∧ z.cell? ⟨c, 0, none⟩ = some (.int .i64 p.1) ∧ z.cell? ⟨c, 1, none⟩ = some (.slice ba L bc) ∧ z.cell? ⟨c, 2, none⟩ = some (.int .i64 p.2.2.1) ∧ z.cell? ⟨c, 3, none⟩ = some (.int .i64 p.2.2.2)) (first | exact ⟨t1, k0, k1, k2, k3⟩ | exact ⟨(b4.cell (cell_lt t1)).trans t1, (b4.cell (cell_lt k0)).trans k0, (b4.cell (cell_lt k1)).trans k1, (b4.cell (cell_lt k2)).trans k2, (b4.cell (cell_lt k3)).trans k3⟩) (first | (go_at_call 55; refine (clocks_lit p ba L bc _ HL.out HOK.out M HM.out).mono ?_; rintro e w4 ⟨rfl, b4⟩))
  have b5 : Below W3.heap.size W3 w4 := (below_drewN (Below.refl W3.heap.size W3) 1).trans b4
  have HW4 : Hid (WkAt Q B w4 g { K with gone := G + 1 }) := HW3.out.below b5
  have hsz3 := cell_lt t1
  have hgB : B ≤ g := by
    obtain ⟨rv2, xv2, dv2, hg2, hB2, -⟩ := HW3.out
    exact hB2
  have hgs3 : g < W3.heap.size := hsz3
  have HB4 : Hid (Below B w w4) := HB3.out.trans (b5.mono (by omega))
  rename_i hHeld_
  clear hHeld_ b4 b5 HW3 HB3 HK3 t1 k0 k1 k2 k3
  have q0 : ∃ gr2 o2 cap2, m + 1 ≤ cap2 ∧ w4.cell? ⟨g, 0, none⟩ = some (.slice (some ⟨gr2, o2, none⟩) (m + 1) cap2) := by
    obtain ⟨rv2, xv2, dv2, hg2, hB2, hr2, -⟩ := HW4.out
    rw [show ({ K with gone := G + 1 } : Wk).rest = p :: K.rest.tail from HRK.out] at hr2
    obtain ⟨a2, cap2, rfl, hcap2, hr2⟩ := hr2
    obtain ⟨gr2, o2, rfl, -⟩ := hr2 (by simp)
    rw [List.length_cons, HMK.out] at hg2 hcap2
    exact ⟨gr2, o2, cap2, hcap2, Blk.cell hg2 0 rfl⟩
  obtain ⟨gr2, o2, cap2, hcap2, q0⟩ := q0
  have q1 : w4.cell? ⟨g, 1, none⟩ = some (.int .i64 ((G : Int) + 1)) := by
    obtain ⟨rv2, xv2, dv2, hg2, -⟩ := HW4.out
    exact Blk.cell hg2 1 rfl
  have q2 : ∃ v, w4.cell? ⟨g, 2, none⟩ = some v := by
    obtain ⟨rv2, xv2, dv2, hg2, -⟩ := HW4.out
    exact ⟨_, Blk.cell hg2 2 rfl⟩
  obtain ⟨v2, q2⟩ := q2
  have f0 : w4.frozen? ⟨g, 0, none⟩ = false := by
    obtain ⟨rv2, xv2, dv2, hg2, -⟩ := HW4.out
    exact Blk.frozen hg2 0
  have f1 : w4.frozen? ⟨g, 1, none⟩ = false := by
    obtain ⟨rv2, xv2, dv2, hg2, -⟩ := HW4.out
    exact Blk.frozen hg2 1
  have f2 : w4.frozen? ⟨g, 2, none⟩ = false := by
    obtain ⟨rv2, xv2, dv2, hg2, -⟩ := HW4.out
    exact Blk.frozen hg2 2
  have HQ0 : Hid (w4.cell? ⟨g, 0, none⟩ = some (.slice (some ⟨gr2, o2, none⟩) (m + 1) cap2)) := q0
  by_cases h1 : cap2 = 1
  · subst h1
    have hm0 : m = 0 := by omega
    subst hm0
    have HN := WkAt.next (gr' := gr2) (o' := o2) (cap' := 0) hQ HW4.out HRK.out HMK.out HQ0.out (Nat.le_refl _) (fun h => absurd h (Nat.lt_irrefl _))
    have HN : Hid (_ ∧ _) := HN
    go_wp2
    go_end0
    rw [HE.out]
    exact ⟨rfl, HN.out.1, HB4.out.trans HN.out.2⟩
  · have HN := WkAt.next (gr' := gr2) (o' := o2 + 4) (cap' := cap2 - 1) hQ HW4.out HRK.out HMK.out HQ0.out (by omega) (fun _ => ⟨rfl, rfl⟩)
    have HN : Hid (_ ∧ _) := HN
    go_wp2
    go_end0
    rw [HE.out]
    exact ⟨rfl, HN.out.1, HB4.out.trans HN.out.2⟩

/-- A clock ends, at which the chip said y. -/
theorem step_any (Q : Nat → Prop) (B g : Nat) (k : Wk) (p : Ph) (y : Nat) (w : World) (hQ : ∀ j, Q j → j < B) (hf : k.Fine p) (h : WkAt Q B w g (k.laned p)) (hrd : k.read.length ≤ 1000000000000) :
    Calls Tryz.prog 60 #[.pointer (some ⟨g, 0, none⟩), .int .i64 (y : Int)] w fun e w' => e = .returned (.tuple #[]) ∧ WkAt Q B w' g ((k.laned p).stepped p y) ∧ Below B w w' := by
  have e1 : (k.laned p).rest = k.rest := by unfold Wk.laned; split <;> rfl
  have e2 : (k.laned p).gone = k.gone := by unfold Wk.laned; split <;> rfl
  have e3 : (k.laned p).read = k.read := by unfold Wk.laned; split <;> rfl
  by_cases hread : 0 < p.2.2.2
  · obtain ⟨hb, hl⟩ : p.2.1 = [] ∧ (p.1 = 1 ∨ p.1 = 4) := by
      rcases okP_cases hf.ok with ⟨_, _, _, _, _, h0⟩ | ⟨_, _, _, _, h0⟩ | ⟨h0, h1, _⟩
      · omega
      · omega
      · exact ⟨h0, h1⟩
    have e4 : (k.laned p).xs = k.xs := by unfold Wk.laned; rw [if_pos (by rw [hb]; rfl)]
    have hlen : (k.laned p).xs.length < bcI p.1 := by rw [e4, hf.came hread]; exact Nat.mod_lt _ (bc_pos hl)
    by_cases hend : k.gone + 1 = nP p
    · exact step_read_end Q B g _ p y w hQ h (by rw [e1]; exact hf.rest) hf.ok (by rw [e2]; exact hf.gone) hread (by rw [e2]; exact hend) hl hlen (by rw [e3]; exact hrd)
    · exact step_read_on Q B g _ p y w hQ h (by rw [e1]; exact hf.rest) hf.ok (by rw [e2]; exact hf.gone) hread (by rw [e2]; exact hend) hl hlen (by rw [e3]; exact hrd)
  · by_cases hend : k.gone + 1 = nP p
    · exact step_still_end Q B g _ p y w hQ h (by rw [e1]; exact hf.rest) hf.ok (by rw [e2]; exact hf.gone) hread (by rw [e2]; exact hend)
    · exact step_still_on Q B g _ p y w hQ h (by rw [e1]; exact hf.rest) hf.ok (by rw [e2]; exact hf.gone) hread (by rw [e2]; exact hend)
end Go.Proofs.YtjhjghakfedeeaaGreat
end
