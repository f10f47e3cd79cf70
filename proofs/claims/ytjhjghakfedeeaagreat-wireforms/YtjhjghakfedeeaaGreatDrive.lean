/-
  A row of phases driven on the program's chip. Conditions: fewer clocks than memory bears bytes.
-/
import Derived.Test.YtjhjghakfedeeaaGreatWalk
import Derived.Test.YtjhjghakfedeeaaGreatStep
import Derived.Test.YtjhjghakfedeeaaGreatSays
namespace Go.Proofs.YtjhjghakfedeeaaGreat
open Go.RowKit Plain
set_option linter.unusedVariables false

/-- The chip lies in block bp, its durations at ds; both are older than B. -/
structure Ride (B n bp : Nat) (ds : Value) (w : World) (s : St) : Prop where
  lies : At w bp s ds
  durs : Durs w bp ds s.durs
  blk : ∀ g, ds.ownBlock = some g → 0 < s.durs.length → g < B
  ok : s.Ok n
  lt : bp < B
theorem Ride.below {B n bp : Nat} {ds : Value} {w w' : World} {s : St} (h : Ride B n bp ds w s) (b : Below B w w') : Ride B n bp ds w' s := by
  refine ⟨?_, ?_, h.blk, h.ok, h.lt⟩
  · have := h.lies
    unfold At Blk at this ⊢
    rw [b.block bp h.lt]; exact this
  · obtain ⟨h1, h2⟩ := h.durs
    refine ⟨?_, h2⟩
    have hb := h.blk
    obtain ⟨a, cap, rfl, hr⟩ := h1
    refine ⟨a, cap, rfl, fun h0 => ?_⟩
    obtain ⟨g, o, rfl, hc⟩ := hr h0
    exact ⟨g, o, rfl, fun j hj => (b.cell (by exact hb g rfl h0)).trans (hc j hj)⟩
theorem only_below {B bp : Nat} {w0 w w' : World} (hB : B = w0.heap.size) (h : Only bp w0 w) (b : Below B w w') : Only bp w0 w' :=
  ⟨b.os.trans h.os, b.tape.trans h.tape, b.output.trans h.output, Nat.le_trans h.size b.size, fun i hi hb => (b.block i (by omega)).trans (h.block i hi hb)⟩
/-- The chip's call turned its own block alone. -/
theorem WkAt.only {Q : Nat → Prop} {B g bp : Nat} {w w' : World} {k : Wk} (hQ : ∀ j, Q j → j < B ∧ j ≠ bp) (hbp : bp < B) (h : WkAt Q B w g k) (o : Only bp w w') : WkAt Q B w' g k := by
  obtain ⟨rv, xv, dv, hg, hB, hr, hx, hd, ha⟩ := h
  refine ⟨rv, xv, dv, ?_, hB, hr.stays fun j hj hl => o.block j hl (hQ j hj).2, ?_, ?_, ha⟩
  · have hl := Blk.lt hg
    unfold Blk at hg ⊢
    rw [o.block g hl (by omega)]; exact hg
  · exact own_keep hx fun j hj => o.block j (own_ge hx j hj).2 (by have := (own_ge hx j hj).1; omega)
  · exact own_keep hd fun j hj => o.block j (own_ge hd j hj).2 (by have := (own_ge hd j hj).1; omega)
theorem WkAt.new {Q : Nat → Prop} {B : Nat} {w : World} {u : Value} {ps : List Ph} (h : PIn Q w u ps) (hB : B ≤ w.heap.size) : WkAt Q B (w.alloc (.cells #[u, .int .i64 0, .slice none 0 0, .slice none 0 0] 99)) w.heap.size ⟨ps, 0, [], []⟩ :=
  ⟨u, .slice none 0 0, .slice none 0 0, Blk.new w 99 _ _ rfl, hB, h.below (below_new _ _), World.ownsRow_nil _ _ _ _, World.ownsRow_nil _ _ _ _, .inl rfl⟩

/-- What the chip is and said behind some clocks. -/
def ranS (s : St) (ps : List Ph) (j : Nat) : St := (s.select.run ((insR ps).take j)).1
def ranY (s : St) (ps : List Ph) (j : Nat) : List Nat := (s.select.run ((insR ps).take j)).2
theorem ran_zero (s : St) (ps : List Ph) : ranS s ps 0 = s.select ∧ ranY s ps 0 = [] := ⟨rfl, rfl⟩
theorem ran_succ (s : St) (ps : List Ph) (j x : Nat) (h : (insR ps)[j]? = some x) : ranS s ps (j + 1) = ((ranS s ps j).clock x).1 ∧ ranY s ps (j + 1) = ranY s ps j ++ [((ranS s ps j).clock x).2] := by
  unfold ranS ranY
  rw [List.take_add_one, h]
  show (s.select.run ((insR ps).take j ++ [x])).1 = _ ∧ (s.select.run ((insR ps).take j ++ [x])).2 = _
  rw [run_append, run_one]
  exact ⟨rfl, rfl⟩
theorem ran_len (s : St) (ps : List Ph) (j : Nat) (h : j ≤ nR ps) : (ranY s ps j).length = j := by
  unfold ranY
  rw [run_length, List.length_take, insR_length]; omega
theorem hrd_short (l : Int) (Y : List Nat) : (hrd l Y).2.length ≤ Y.length := by
  refine snoc_ind (P := fun Y => (hrd l Y).2.length ≤ Y.length) (by simp [hrd]) ?_ Y
  intro Y y ih
  rw [hrd_snoc, List.length_append]
  unfold hearF
  split
  · show (hrd l Y).2.length ≤ _; simp; omega
  · show ((hrd l Y).2 ++ _).length ≤ _; rw [List.length_append]; simp; omega
theorem rdR_short : ∀ (ps : List Ph) (Y : List Nat), (rdR ps Y).length ≤ Y.length
  | [], Y => by simp [rdR]
  | p :: ps, Y => by
    have h1 := rdR_short ps (Y.drop (nP p))
    have h2 : (rdOf p (Y.take (nP p))).length ≤ (Y.take (nP p)).length := by
      unfold rdOf; split
      · exact hrd_short _ _
      · simp
    unfold rdR
    rw [List.length_append]
    rw [List.length_drop] at h1
    rw [List.length_take] at h2
    omega
theorem wk_short (ps : List Ph) (Y : List Nat) (h : Y.length ≤ nR ps) (hok : okR ps = true) : (wkOf ps Y).read.length ≤ Y.length := by
  rw [wk_read ps Y h hok]; exact rdR_short ps Y

/-- All that the loop keeps, behind j clocks. -/
structure Goes (Q : Nat → Prop) (n bp g : Nat) (ds : Value) (s : St) (ps : List Ph) (w0 w : World) (j : Nat) : Prop where
  walk : WkAt Q w0.heap.size w g (wkOf ps (ranY s ps j))
  ride : Ride w0.heap.size (n + j) bp ds w (ranS s ps j)
  only : Only bp w0 w
theorem rd_blk {w : World} {v : Value} {L : List Int} (h : Reads w v L) : ∀ k, v.ownBlock = some k → 0 < L.length → k < w.heap.size := fun k hk h0 => by
  obtain ⟨a, cap, rfl, hr⟩ := h
  obtain ⟨g, o, rfl, hc⟩ := hr h0
  have e : g = k := by simpa [Value.ownBlock] using hk
  subst e
  exact cell_lt (hc 0 h0)
theorem clock_dursL (s : St) (x : Nat) : (s.clock x).1.durs = s.durs := clock_durs s x

set_option maxRecDepth 100000 in
set_option maxHeartbeats 4000000 in
theorem drive_free (n bp : Nat) (s : St) (ds u : Value) (ps : List Ph) (most : Int) (w : World) (h : At w bp s ds) (hd : Durs w bp ds s.durs) (ho : s.Ok n) (hl : s.sel = false) (hu : PIn (fun g => g < w.heap.size ∧ g ≠ bp) w u ps) (hp : PFit ps) (hok : okR ps = true) (hm : most < 0) (hE : nR ps ≤ 1000000000000) (hn : n ≤ 1000000000000000) :
    Calls Tryz.prog 17 #[.pointer (some ⟨bp, 0, none⟩), u, .int .i64 most] w fun e w' => ∃ v, e = .returned (.tuple #[v, .int .i64 (nR ps : Nat), .bool true, .int .i64 0]) ∧ Owns w.heap.size w' v (rdR ps (ranY s ps (nR ps))) ∧ (∃ ds', At w' bp ((ranS s ps (nR ps)).deselect) ds' ∧ Durs w' bp ds' ((ranS s ps (nR ps)).deselect).durs ∧ ds'.ownBlock = ds.ownBlock) ∧ Only bp w w' := by
  obtain ⟨E, HE⟩ : ∃ E, Hid (nR ps = E) := ⟨_, rfl⟩
  rw [HE.out] at hE ⊢
  have HLe : Hid (E ≤ nR ps) := by rw [Hid, ← HE.out]; omega
  have hblk : ∀ g, ds.ownBlock = some g → 0 < s.durs.length → g < w.heap.size := rd_blk hd.1
  have HQ : Hid (∀ j, (fun g => g < w.heap.size ∧ g ≠ bp) j → j < w.heap.size) := fun j hj => hj.1
  have HQ2 : Hid (∀ j, (fun g => g < w.heap.size ∧ g ≠ bp) j → j < w.heap.size ∧ j ≠ bp) := fun j hj => hj
  generalize hQQ : (fun g => g < w.heap.size ∧ g ≠ bp) = Q at hu HQ HQ2
  have HA : Hid (At w bp s ds) := h
  have HD : Hid (Durs w bp ds s.durs) := hd
  have HO : Hid (s.Ok n) := ho
  have HU : Hid (PIn Q w u ps) := hu
  have HP : Hid (PFit ps) := hp
  have HK : Hid (okR ps = true) := hok
  have HL : Hid (s.sel = false) := hl
  have HB : Hid (∀ g, ds.ownBlock = some g → 0 < s.durs.length → g < w.heap.size) := hblk
  have hbp : bp < w.heap.size := Blk.lt h
  have HC1 : Hid ((clkN ps : Int) = (nR ps : Int) ∧ clkX ps = 0) := by rw [Hid, clkN, clkX, hok]; exact ⟨rfl, rfl⟩
  obtain ⟨ua, uc, rfl, -⟩ := id hu
  obtain ⟨T, HT⟩ : ∃ T, Hid (nR ps = T) := ⟨_, rfl⟩
  have hTE : E = T := HE.out.symm.trans HT.out
  subst hTE
  clear h hd ho hu hp hok hl hblk hQQ
  have hT : E ≤ 12009599006321322 := by rw [← HT.out]; exact HP.out.le HK.out
  go_enter Tryz.func17, Tryz.ntmps17
  go_wp2_with fail
  refine (rowclocks_any _ ps _ HU.out.reads HP.out).mono ?_
  rintro e w1 ⟨rfl, b1⟩
  rw [HC1.out.1, HC1.out.2, HT.out]
  have HB1 : Hid (Below w.heap.size w w1) := b1
  clear b1
  go_wp2_with fail
  refine (select_any n bp s ds w1 (HA.out.below HB1.out) HO.out HL.out).mono ?_
  rintro e w2 ⟨rfl, a2, o2⟩
  have HA2 : Hid (At w2 bp s.select ds) := a2
  have HO2 : Hid (Only bp w w2) := (Only.of_below HB1.out).trans o2
  have HS2 : Hid (w.heap.size ≤ w2.heap.size) := Nat.le_trans HB1.out.size o2.size
  have HU2 : Hid (PIn Q w2 (.slice ua ps.length uc) ps) := (HU.out.below HB1.out).stays fun j hj hlt => o2.block j hlt (HQ2.out j hj).2
  have HG0 : Hid (Goes Q n bp w2.heap.size ds s ps w (w2.alloc (.cells #[.slice ua ps.length uc, .int .i64 0, .slice none 0 0, .slice none 0 0] 99)) 0) := by
    refine ⟨?_, Ride.below (w := w2) ⟨HA2.out, ?_, ?_, select_ok HO.out, hbp⟩ ((below_new _ _).mono HS2.out), only_below rfl HO2.out ((below_new _ _).mono HS2.out)⟩
    · rw [(ran_zero s ps).2, wkOf_nil HK.out]
      exact WkAt.new HU2.out HS2.out
    · show Durs w2 bp ds s.select.durs
      rw [select_durs]
      exact HD.out.only HO2.out
    · show ∀ g, ds.ownBlock = some g → 0 < s.select.durs.length → _
      rw [select_durs]
      exact HB.out
  have HNL : Hid (n ≤ 1000000000000000) := hn
  clear a2 o2 HA HD HO HU HB HA2 HU2 HO2 HB1 hn
  go_upto_region 10 with fail
  generalize hW3 : (w2.alloc (.cells #[.slice ua ps.length uc, .int .i64 0, .slice none 0 0, .slice none 0 0] 99)) = W3 at HG0 ⊢
  obtain ⟨g, Hg⟩ : ∃ g, Hid (w2.heap.size = g) := ⟨_, rfl⟩
  rw [Hg.out] at HG0
  try rw [Hg.out]
  clear hW3 HS2
  go_upto_region 11 with fail
  go_loopw [43] (fun i wr => ∃ j : Nat, j ≤ E ∧ i = .int .i64 j ∧ Hid (Goes Q n bp g ds s ps w wr j)) (fun i _ => E - (intOf i).toNat)
  case atStart => exact ⟨0, Nat.zero_le _, rfl, HG0.out⟩
  case round =>
    obtain ⟨j, hj, rfl, HG⟩ := hrel
    clear HG0
    by_cases hlt : j < E
    · have hjR : j < nR ps := Nat.lt_of_lt_of_le hlt HLe.out
      have hYl : (ranY s ps j).length = j := ran_len s ps j (Nat.le_of_lt hjR)
      obtain ⟨p, hpm, hf, hi, hs⟩ := wk_step HK.out (show (ranY s ps j).length < nR ps by rw [hYl]; exact hjR)
      rw [hYl] at hi
      have hsucc := ran_succ s ps j _ hi
      have hin := inN_eq (g := (wkOf ps (ranY s ps j)).gone) hf.ok
      have hrl := wk_short ps (ranY s ps j) (by rw [hYl]; omega) HK.out
      rw [hYl] at hrl
      have HHF : Hid ((wkOf ps (ranY s ps j)).Fine p) := hf
      have HS : Hid (∀ y, wkOf ps (ranY s ps j ++ [y]) = ((wkOf ps (ranY s ps j)).laned p).stepped p y) := hs
      have HR1 : Hid (ranS s ps (j + 1) = ((ranS s ps j).clock (inN p (wkOf ps (ranY s ps j)).gone)).1) := hsucc.1
      have HR2 : Hid (ranY s ps (j + 1) = ranY s ps j ++ [((ranS s ps j).clock (inN p (wkOf ps (ranY s ps j)).gone)).2]) := hsucc.2
      have HIN : Hid (((inN p (wkOf ps (ranY s ps j)).gone : Nat) : Int) = inW p (wkOf ps (ranY s ps j)).gone ∧ inN p (wkOf ps (ranY s ps j)).gone < 16) := hin
      have HRL : Hid ((wkOf ps (ranY s ps j)).read.length ≤ 1000000000000) := by rw [Hid]; omega
      clear hf hs hsucc hin hrl hi hYl hjR hpm
      obtain ⟨k, hk⟩ : ∃ k, wkOf ps (ranY s ps j) = k := ⟨_, rfl⟩
      obtain ⟨S, hS⟩ : ∃ S, ranS s ps j = S := ⟨_, rfl⟩
      have HG1 : Hid (WkAt Q w.heap.size wr g k) := by rw [← hk]; exact HG.out.walk
      have HG2 : Hid (Ride w.heap.size (n + j) bp ds wr S) := by rw [← hS]; exact HG.out.ride
      have HG3 : Hid (Only bp w wr) := HG.out.only
      have HKk : Hid (wkOf ps (ranY s ps j) = k) := hk
      rw [hk] at HHF HS HR1 HR2 HIN HRL
      rw [hS] at HR1 HR2
      clear hk hS HG
      obtain ⟨x, hx⟩ : ∃ x, inN p k.gone = x := ⟨_, rfl⟩
      rw [hx] at HR1 HR2 HIN
      clear hx
      go_wp2_with fail
      refine (lanes_any Q w.heap.size g k p wr HQ.out HG1.out HHF.out).mono ?_
      rintro e w4 ⟨rfl, k4, b4⟩
      rw [← HIN.out.1]
      have HG4 : Hid (WkAt Q w.heap.size w4 g (k.laned p)) := k4
      have HRd4 : Hid (Ride w.heap.size (n + j) bp ds w4 S) := HG2.out.below b4
      have HO4 : Hid (Only bp w w4) := only_below rfl HG3.out b4
      clear k4 b4 HG1 HG2 HG3
      go_wp2_with fail
      refine (clock_any (n + j) bp S ds x w4 HRd4.out.lies HRd4.out.ok (by have := HNL.out; omega) HIN.out.2).mono ?_
      rintro e w5 ⟨rfl, a5, o5⟩
      have HG5 : Hid (WkAt Q w.heap.size w5 g (k.laned p)) := HG4.out.only HQ2.out hbp o5
      have HRd5 : Hid (Ride w.heap.size (n + (j + 1)) bp ds w5 (S.clock x).1) := ⟨a5, by rw [clock_durs]; exact HRd4.out.durs.only o5, by rw [clock_durs]; exact HRd4.out.blk, clock_ok HRd4.out.ok x, hbp⟩
      have HO5 : Hid (Only bp w w5) := HO4.out.trans o5
      obtain ⟨y, HY⟩ : ∃ y, Hid ((S.clock x).2 = y) := ⟨_, rfl⟩
      rw [HY.out] at HR2 ⊢
      clear a5 o5 HG4 HRd4 HO4 HIN
      go_wp2_with fail
      refine (step_any Q w.heap.size g k p y w5 HQ.out HHF.out HG5.out HRL.out).mono ?_
      rintro e w6 ⟨rfl, k6, b6⟩
      have HG6 : Hid (Goes Q n bp g ds s ps w w6 (j + 1)) := by
        refine ⟨?_, ?_, only_below rfl HO5.out b6⟩
        · rw [HR2.out, HS.out y]; exact k6
        · rw [HR1.out]; exact HRd5.out.below b6
      clear k6 b6 HG5 HRd5 HO5 HHF HS HR1 HR2 HRL HKk HY
      go_wp2
      go_roundw
      case rel => exact ⟨j + 1, by omega, by go_num, HG6.out⟩
      case measure => simp [intOf]; omega
    · have hjE : E = j := by omega
      subst hjE
      have HW7 : Hid (WkAt Q w.heap.size wr g (wkOf ps (ranY s ps E))) := HG.out.walk
      have HR7 : Hid (Ride w.heap.size (n + E) bp ds wr (ranS s ps E)) := HG.out.ride
      have HO7 : Hid (Only bp w wr) := HG.out.only
      have HRD : Hid ((wkOf ps (ranY s ps E)).read = rdR ps (ranY s ps E)) := wk_read ps _ (by rw [ran_len s ps E HLe.out]; exact HLe.out) HK.out
      clear HG
      have hsel : (ranS s ps E).sel = true := by unfold ranS; rw [run_sel]; exact select_sel s
      go_wp2_with fail
      refine (deselect_any (n + E) bp (ranS s ps E) ds wr HR7.out.lies HR7.out.durs HR7.out.ok hsel (by have := HNL.out; omega)).mono ?_
      rintro e w8 ⟨rfl, ds', a1, a2, a3, a4⟩
      have HW8 : Hid (WkAt Q w.heap.size w8 g (wkOf ps (ranY s ps E))) := HW7.out.only HQ2.out hbp a3
      have HO8 : Hid (Only bp w w8) := HO7.out.trans a3
      have HF : Hid (∃ ds', At w8 bp (ranS s ps E).deselect ds' ∧ Durs w8 bp ds' (ranS s ps E).deselect.durs ∧ ds'.ownBlock = ds.ownBlock) := ⟨ds', a1, a2, a4⟩
      clear a1 a2 a3 a4 HR7 HW7 HO7
      obtain ⟨rv, xv, dv, hg, hB, -, -, hdv, -⟩ := HW8.out
      obtain ⟨da, dc, rfl⟩ := own_slice hdv
      rw [HRD.out] at hdv hg
      have c3 : w8.cell? ⟨g, 3, none⟩ = some (.slice da (rdR ps (ranY s ps E)).length dc) := Blk.cell hg 3 rfl
      have HDV : Hid (Owns w.heap.size w8 (.slice da (rdR ps (ranY s ps E)).length dc) (rdR ps (ranY s ps E))) := hdv
      clear hdv hg hB
      go_wp2
      refine bodyPost_ret (v := .tuple #[.slice da (rdR ps (ranY s ps E)).length dc, .int .i64 (E : Nat), .bool true, .int .i64 0]) (by simp [results, Tryz.results17, go_sem]) rfl ⟨_, rfl, HDV.out, HF.out, HO8.out⟩

set_option maxRecDepth 100000 in
set_option maxHeartbeats 4000000 in
theorem drive_whole (n bp : Nat) (s : St) (ds u : Value) (ps : List Ph) (most : Int) (w : World) (h : At w bp s ds) (hd : Durs w bp ds s.durs) (ho : s.Ok n) (hl : s.sel = false) (hu : PIn (fun g => g < w.heap.size ∧ g ≠ bp) w u ps) (hp : PFit ps) (hok : okR ps = true) (hm : 0 ≤ most) (hm2 : (nR ps : Int) ≤ most) (hE : nR ps ≤ 1000000000000) (hn : n ≤ 1000000000000000) :
    Calls Tryz.prog 17 #[.pointer (some ⟨bp, 0, none⟩), u, .int .i64 most] w fun e w' => ∃ v, e = .returned (.tuple #[v, .int .i64 (nR ps : Nat), .bool true, .int .i64 0]) ∧ Owns w.heap.size w' v (rdR ps (ranY s ps (nR ps))) ∧ (∃ ds', At w' bp ((ranS s ps (nR ps)).deselect) ds' ∧ Durs w' bp ds' ((ranS s ps (nR ps)).deselect).durs ∧ ds'.ownBlock = ds.ownBlock) ∧ Only bp w w' := by
  obtain ⟨E, HE⟩ : ∃ E, Hid (nR ps = E) := ⟨_, rfl⟩
  rw [HE.out] at hE ⊢
  have HLe : Hid (E ≤ nR ps) := by rw [Hid, ← HE.out]; omega
  have hblk : ∀ g, ds.ownBlock = some g → 0 < s.durs.length → g < w.heap.size := rd_blk hd.1
  have HQ : Hid (∀ j, (fun g => g < w.heap.size ∧ g ≠ bp) j → j < w.heap.size) := fun j hj => hj.1
  have HQ2 : Hid (∀ j, (fun g => g < w.heap.size ∧ g ≠ bp) j → j < w.heap.size ∧ j ≠ bp) := fun j hj => hj
  generalize hQQ : (fun g => g < w.heap.size ∧ g ≠ bp) = Q at hu HQ HQ2
  have HA : Hid (At w bp s ds) := h
  have HD : Hid (Durs w bp ds s.durs) := hd
  have HO : Hid (s.Ok n) := ho
  have HU : Hid (PIn Q w u ps) := hu
  have HP : Hid (PFit ps) := hp
  have HK : Hid (okR ps = true) := hok
  have HL : Hid (s.sel = false) := hl
  have HB : Hid (∀ g, ds.ownBlock = some g → 0 < s.durs.length → g < w.heap.size) := hblk
  have hbp : bp < w.heap.size := Blk.lt h
  have HC1 : Hid ((clkN ps : Int) = (nR ps : Int) ∧ clkX ps = 0) := by rw [Hid, clkN, clkX, hok]; exact ⟨rfl, rfl⟩
  obtain ⟨ua, uc, rfl, -⟩ := id hu
  obtain ⟨T, HT⟩ : ∃ T, Hid (nR ps = T) := ⟨_, rfl⟩
  have hTE : E = T := HE.out.symm.trans HT.out
  subst hTE
  rw [HT.out] at hm2
  clear h hd ho hu hp hok hl hblk hQQ
  have hT : E ≤ 12009599006321322 := by rw [← HT.out]; exact HP.out.le HK.out
  go_enter Tryz.func17, Tryz.ntmps17
  go_wp2_with fail
  refine (rowclocks_any _ ps _ HU.out.reads HP.out).mono ?_
  rintro e w1 ⟨rfl, b1⟩
  rw [HC1.out.1, HC1.out.2, HT.out]
  have HB1 : Hid (Below w.heap.size w w1) := b1
  clear b1
  go_wp2_with fail
  refine (select_any n bp s ds w1 (HA.out.below HB1.out) HO.out HL.out).mono ?_
  rintro e w2 ⟨rfl, a2, o2⟩
  have HA2 : Hid (At w2 bp s.select ds) := a2
  have HO2 : Hid (Only bp w w2) := (Only.of_below HB1.out).trans o2
  have HS2 : Hid (w.heap.size ≤ w2.heap.size) := Nat.le_trans HB1.out.size o2.size
  have HU2 : Hid (PIn Q w2 (.slice ua ps.length uc) ps) := (HU.out.below HB1.out).stays fun j hj hlt => o2.block j hlt (HQ2.out j hj).2
  have HG0 : Hid (Goes Q n bp w2.heap.size ds s ps w (w2.alloc (.cells #[.slice ua ps.length uc, .int .i64 0, .slice none 0 0, .slice none 0 0] 99)) 0) := by
    refine ⟨?_, Ride.below (w := w2) ⟨HA2.out, ?_, ?_, select_ok HO.out, hbp⟩ ((below_new _ _).mono HS2.out), only_below rfl HO2.out ((below_new _ _).mono HS2.out)⟩
    · rw [(ran_zero s ps).2, wkOf_nil HK.out]
      exact WkAt.new HU2.out HS2.out
    · show Durs w2 bp ds s.select.durs
      rw [select_durs]
      exact HD.out.only HO2.out
    · show ∀ g, ds.ownBlock = some g → 0 < s.select.durs.length → _
      rw [select_durs]
      exact HB.out
  have HNL : Hid (n ≤ 1000000000000000) := hn
  clear a2 o2 HA HD HO HU HB HA2 HU2 HO2 HB1 hn
  go_upto_region 10 with fail
  generalize hW3 : (w2.alloc (.cells #[.slice ua ps.length uc, .int .i64 0, .slice none 0 0, .slice none 0 0] 99)) = W3 at HG0 ⊢
  obtain ⟨g, Hg⟩ : ∃ g, Hid (w2.heap.size = g) := ⟨_, rfl⟩
  rw [Hg.out] at HG0
  try rw [Hg.out]
  clear hW3 HS2
  go_upto_region 11 with fail
  go_loopw [43] (fun i wr => ∃ j : Nat, j ≤ E ∧ i = .int .i64 j ∧ Hid (Goes Q n bp g ds s ps w wr j)) (fun i _ => E - (intOf i).toNat)
  case atStart => exact ⟨0, Nat.zero_le _, rfl, HG0.out⟩
  case round =>
    obtain ⟨j, hj, rfl, HG⟩ := hrel
    clear HG0
    by_cases hlt : j < E
    · have hjR : j < nR ps := Nat.lt_of_lt_of_le hlt HLe.out
      have hYl : (ranY s ps j).length = j := ran_len s ps j (Nat.le_of_lt hjR)
      obtain ⟨p, hpm, hf, hi, hs⟩ := wk_step HK.out (show (ranY s ps j).length < nR ps by rw [hYl]; exact hjR)
      rw [hYl] at hi
      have hsucc := ran_succ s ps j _ hi
      have hin := inN_eq (g := (wkOf ps (ranY s ps j)).gone) hf.ok
      have hrl := wk_short ps (ranY s ps j) (by rw [hYl]; omega) HK.out
      rw [hYl] at hrl
      have HHF : Hid ((wkOf ps (ranY s ps j)).Fine p) := hf
      have HS : Hid (∀ y, wkOf ps (ranY s ps j ++ [y]) = ((wkOf ps (ranY s ps j)).laned p).stepped p y) := hs
      have HR1 : Hid (ranS s ps (j + 1) = ((ranS s ps j).clock (inN p (wkOf ps (ranY s ps j)).gone)).1) := hsucc.1
      have HR2 : Hid (ranY s ps (j + 1) = ranY s ps j ++ [((ranS s ps j).clock (inN p (wkOf ps (ranY s ps j)).gone)).2]) := hsucc.2
      have HIN : Hid (((inN p (wkOf ps (ranY s ps j)).gone : Nat) : Int) = inW p (wkOf ps (ranY s ps j)).gone ∧ inN p (wkOf ps (ranY s ps j)).gone < 16) := hin
      have HRL : Hid ((wkOf ps (ranY s ps j)).read.length ≤ 1000000000000) := by rw [Hid]; omega
      clear hf hs hsucc hin hrl hi hYl hjR hpm
      obtain ⟨k, hk⟩ : ∃ k, wkOf ps (ranY s ps j) = k := ⟨_, rfl⟩
      obtain ⟨S, hS⟩ : ∃ S, ranS s ps j = S := ⟨_, rfl⟩
      have HG1 : Hid (WkAt Q w.heap.size wr g k) := by rw [← hk]; exact HG.out.walk
      have HG2 : Hid (Ride w.heap.size (n + j) bp ds wr S) := by rw [← hS]; exact HG.out.ride
      have HG3 : Hid (Only bp w wr) := HG.out.only
      have HKk : Hid (wkOf ps (ranY s ps j) = k) := hk
      rw [hk] at HHF HS HR1 HR2 HIN HRL
      rw [hS] at HR1 HR2
      clear hk hS HG
      obtain ⟨x, hx⟩ : ∃ x, inN p k.gone = x := ⟨_, rfl⟩
      rw [hx] at HR1 HR2 HIN
      clear hx
      go_wp2_with fail
      refine (lanes_any Q w.heap.size g k p wr HQ.out HG1.out HHF.out).mono ?_
      rintro e w4 ⟨rfl, k4, b4⟩
      rw [← HIN.out.1]
      have HG4 : Hid (WkAt Q w.heap.size w4 g (k.laned p)) := k4
      have HRd4 : Hid (Ride w.heap.size (n + j) bp ds w4 S) := HG2.out.below b4
      have HO4 : Hid (Only bp w w4) := only_below rfl HG3.out b4
      clear k4 b4 HG1 HG2 HG3
      go_wp2_with fail
      refine (clock_any (n + j) bp S ds x w4 HRd4.out.lies HRd4.out.ok (by have := HNL.out; omega) HIN.out.2).mono ?_
      rintro e w5 ⟨rfl, a5, o5⟩
      have HG5 : Hid (WkAt Q w.heap.size w5 g (k.laned p)) := HG4.out.only HQ2.out hbp o5
      have HRd5 : Hid (Ride w.heap.size (n + (j + 1)) bp ds w5 (S.clock x).1) := ⟨a5, by rw [clock_durs]; exact HRd4.out.durs.only o5, by rw [clock_durs]; exact HRd4.out.blk, clock_ok HRd4.out.ok x, hbp⟩
      have HO5 : Hid (Only bp w w5) := HO4.out.trans o5
      obtain ⟨y, HY⟩ : ∃ y, Hid ((S.clock x).2 = y) := ⟨_, rfl⟩
      rw [HY.out] at HR2 ⊢
      clear a5 o5 HG4 HRd4 HO4 HIN
      go_wp2_with fail
      refine (step_any Q w.heap.size g k p y w5 HQ.out HHF.out HG5.out HRL.out).mono ?_
      rintro e w6 ⟨rfl, k6, b6⟩
      have HG6 : Hid (Goes Q n bp g ds s ps w w6 (j + 1)) := by
        refine ⟨?_, ?_, only_below rfl HO5.out b6⟩
        · rw [HR2.out, HS.out y]; exact k6
        · rw [HR1.out]; exact HRd5.out.below b6
      clear k6 b6 HG5 HRd5 HO5 HHF HS HR1 HR2 HRL HKk HY
      go_wp2
      go_roundw
      case rel => exact ⟨j + 1, by omega, by go_num, HG6.out⟩
      case measure => simp [intOf]; omega
    · have hjE : E = j := by omega
      subst hjE
      have HW7 : Hid (WkAt Q w.heap.size wr g (wkOf ps (ranY s ps E))) := HG.out.walk
      have HR7 : Hid (Ride w.heap.size (n + E) bp ds wr (ranS s ps E)) := HG.out.ride
      have HO7 : Hid (Only bp w wr) := HG.out.only
      have HRD : Hid ((wkOf ps (ranY s ps E)).read = rdR ps (ranY s ps E)) := wk_read ps _ (by rw [ran_len s ps E HLe.out]; exact HLe.out) HK.out
      clear HG
      have hsel : (ranS s ps E).sel = true := by unfold ranS; rw [run_sel]; exact select_sel s
      go_wp2_with fail
      refine (deselect_any (n + E) bp (ranS s ps E) ds wr HR7.out.lies HR7.out.durs HR7.out.ok hsel (by have := HNL.out; omega)).mono ?_
      rintro e w8 ⟨rfl, ds', a1, a2, a3, a4⟩
      have HW8 : Hid (WkAt Q w.heap.size w8 g (wkOf ps (ranY s ps E))) := HW7.out.only HQ2.out hbp a3
      have HO8 : Hid (Only bp w w8) := HO7.out.trans a3
      have HF : Hid (∃ ds', At w8 bp (ranS s ps E).deselect ds' ∧ Durs w8 bp ds' (ranS s ps E).deselect.durs ∧ ds'.ownBlock = ds.ownBlock) := ⟨ds', a1, a2, a4⟩
      clear a1 a2 a3 a4 HR7 HW7 HO7
      obtain ⟨rv, xv, dv, hg, hB, -, -, hdv, -⟩ := HW8.out
      obtain ⟨da, dc, rfl⟩ := own_slice hdv
      rw [HRD.out] at hdv hg
      have c3 : w8.cell? ⟨g, 3, none⟩ = some (.slice da (rdR ps (ranY s ps E)).length dc) := Blk.cell hg 3 rfl
      have HDV : Hid (Owns w.heap.size w8 (.slice da (rdR ps (ranY s ps E)).length dc) (rdR ps (ranY s ps E))) := hdv
      clear hdv hg hB
      go_wp2
      refine bodyPost_ret (v := .tuple #[.slice da (rdR ps (ranY s ps E)).length dc, .int .i64 (E : Nat), .bool true, .int .i64 0]) (by simp [results, Tryz.results17, go_sem]) rfl ⟨_, rfl, HDV.out, HF.out, HO8.out⟩

set_option maxRecDepth 100000 in
set_option maxHeartbeats 4000000 in
theorem drive_cut (n bp : Nat) (s : St) (ds u : Value) (ps : List Ph) (most : Int) (w : World) (h : At w bp s ds) (hd : Durs w bp ds s.durs) (ho : s.Ok n) (hl : s.sel = false) (hu : PIn (fun g => g < w.heap.size ∧ g ≠ bp) w u ps) (hp : PFit ps) (hok : okR ps = true) (hm : 0 ≤ most) (hm2 : most < (nR ps : Int)) (hE : most.toNat ≤ 1000000000000) (hn : n ≤ 1000000000000000) :
    Calls Tryz.prog 17 #[.pointer (some ⟨bp, 0, none⟩), u, .int .i64 most] w fun e w' => ∃ v, e = .returned (.tuple #[v, .int .i64 (most.toNat : Nat), .bool false, .int .i64 0]) ∧ Owns w.heap.size w' v (rdR ps (ranY s ps (most.toNat))) ∧ (∃ ds', At w' bp (ranS s ps most.toNat) ds' ∧ Durs w' bp ds' (ranS s ps most.toNat).durs ∧ ds'.ownBlock = ds.ownBlock) ∧ Only bp w w' := by
  obtain ⟨E, HE⟩ : ∃ E, Hid (most.toNat = E) := ⟨_, rfl⟩
  rw [HE.out] at hE ⊢
  have HLe : Hid (E ≤ nR ps) := by rw [Hid, ← HE.out]; omega
  have hblk : ∀ g, ds.ownBlock = some g → 0 < s.durs.length → g < w.heap.size := rd_blk hd.1
  have HQ : Hid (∀ j, (fun g => g < w.heap.size ∧ g ≠ bp) j → j < w.heap.size) := fun j hj => hj.1
  have HQ2 : Hid (∀ j, (fun g => g < w.heap.size ∧ g ≠ bp) j → j < w.heap.size ∧ j ≠ bp) := fun j hj => hj
  generalize hQQ : (fun g => g < w.heap.size ∧ g ≠ bp) = Q at hu HQ HQ2
  have HA : Hid (At w bp s ds) := h
  have HD : Hid (Durs w bp ds s.durs) := hd
  have HO : Hid (s.Ok n) := ho
  have HU : Hid (PIn Q w u ps) := hu
  have HP : Hid (PFit ps) := hp
  have HK : Hid (okR ps = true) := hok
  have HL : Hid (s.sel = false) := hl
  have HB : Hid (∀ g, ds.ownBlock = some g → 0 < s.durs.length → g < w.heap.size) := hblk
  have hbp : bp < w.heap.size := Blk.lt h
  have HC1 : Hid ((clkN ps : Int) = (nR ps : Int) ∧ clkX ps = 0) := by rw [Hid, clkN, clkX, hok]; exact ⟨rfl, rfl⟩
  obtain ⟨ua, uc, rfl, -⟩ := id hu
  obtain ⟨T, HT⟩ : ∃ T, Hid (nR ps = T) := ⟨_, rfl⟩
  rw [HT.out] at hm2
  clear h hd ho hu hp hok hl hblk hQQ
  obtain ⟨most, rfl⟩ : ∃ m : Nat, most = m := ⟨most.toNat, by omega⟩
  rw [Int.toNat_natCast] at HE
  have hE2 : E = most := HE.out.symm
  subst hE2
  have hd1 : decide ((E : Int) < 0) = false := decide_eq_false (by omega)
  have hd2 : decide (T ≤ E) = false := decide_eq_false (by omega)
  have hd3 : decide ((T : Int) ≤ (E : Int)) = false := decide_eq_false (by omega)
  have hT : T ≤ 12009599006321322 := by rw [← HT.out]; exact HP.out.le HK.out
  go_enter Tryz.func17, Tryz.ntmps17
  go_wp2_with fail
  refine (rowclocks_any _ ps _ HU.out.reads HP.out).mono ?_
  rintro e w1 ⟨rfl, b1⟩
  rw [HC1.out.1, HC1.out.2, HT.out]
  have HB1 : Hid (Below w.heap.size w w1) := b1
  clear b1
  go_wp2_with fail
  refine (select_any n bp s ds w1 (HA.out.below HB1.out) HO.out HL.out).mono ?_
  rintro e w2 ⟨rfl, a2, o2⟩
  have HA2 : Hid (At w2 bp s.select ds) := a2
  have HO2 : Hid (Only bp w w2) := (Only.of_below HB1.out).trans o2
  have HS2 : Hid (w.heap.size ≤ w2.heap.size) := Nat.le_trans HB1.out.size o2.size
  have HU2 : Hid (PIn Q w2 (.slice ua ps.length uc) ps) := (HU.out.below HB1.out).stays fun j hj hlt => o2.block j hlt (HQ2.out j hj).2
  have HG0 : Hid (Goes Q n bp w2.heap.size ds s ps w (w2.alloc (.cells #[.slice ua ps.length uc, .int .i64 0, .slice none 0 0, .slice none 0 0] 99)) 0) := by
    refine ⟨?_, Ride.below (w := w2) ⟨HA2.out, ?_, ?_, select_ok HO.out, hbp⟩ ((below_new _ _).mono HS2.out), only_below rfl HO2.out ((below_new _ _).mono HS2.out)⟩
    · rw [(ran_zero s ps).2, wkOf_nil HK.out]
      exact WkAt.new HU2.out HS2.out
    · show Durs w2 bp ds s.select.durs
      rw [select_durs]
      exact HD.out.only HO2.out
    · show ∀ g, ds.ownBlock = some g → 0 < s.select.durs.length → _
      rw [select_durs]
      exact HB.out
  have HNL : Hid (n ≤ 1000000000000000) := hn
  clear a2 o2 HA HD HO HU HB HA2 HU2 HO2 HB1 hn
  go_upto_region 10 with fail
  generalize hW3 : (w2.alloc (.cells #[.slice ua ps.length uc, .int .i64 0, .slice none 0 0, .slice none 0 0] 99)) = W3 at HG0 ⊢
  obtain ⟨g, Hg⟩ : ∃ g, Hid (w2.heap.size = g) := ⟨_, rfl⟩
  rw [Hg.out] at HG0
  try rw [Hg.out]
  clear hW3 HS2
  go_upto_region 11 with fail
  go_loopw [43] (fun i wr => ∃ j : Nat, j ≤ E ∧ i = .int .i64 j ∧ Hid (Goes Q n bp g ds s ps w wr j)) (fun i _ => E - (intOf i).toNat)
  case atStart => exact ⟨0, Nat.zero_le _, rfl, HG0.out⟩
  case round =>
    obtain ⟨j, hj, rfl, HG⟩ := hrel
    clear HG0
    by_cases hlt : j < E
    · have hjR : j < nR ps := Nat.lt_of_lt_of_le hlt HLe.out
      have hYl : (ranY s ps j).length = j := ran_len s ps j (Nat.le_of_lt hjR)
      obtain ⟨p, hpm, hf, hi, hs⟩ := wk_step HK.out (show (ranY s ps j).length < nR ps by rw [hYl]; exact hjR)
      rw [hYl] at hi
      have hsucc := ran_succ s ps j _ hi
      have hin := inN_eq (g := (wkOf ps (ranY s ps j)).gone) hf.ok
      have hrl := wk_short ps (ranY s ps j) (by rw [hYl]; omega) HK.out
      rw [hYl] at hrl
      have HHF : Hid ((wkOf ps (ranY s ps j)).Fine p) := hf
      have HS : Hid (∀ y, wkOf ps (ranY s ps j ++ [y]) = ((wkOf ps (ranY s ps j)).laned p).stepped p y) := hs
      have HR1 : Hid (ranS s ps (j + 1) = ((ranS s ps j).clock (inN p (wkOf ps (ranY s ps j)).gone)).1) := hsucc.1
      have HR2 : Hid (ranY s ps (j + 1) = ranY s ps j ++ [((ranS s ps j).clock (inN p (wkOf ps (ranY s ps j)).gone)).2]) := hsucc.2
      have HIN : Hid (((inN p (wkOf ps (ranY s ps j)).gone : Nat) : Int) = inW p (wkOf ps (ranY s ps j)).gone ∧ inN p (wkOf ps (ranY s ps j)).gone < 16) := hin
      have HRL : Hid ((wkOf ps (ranY s ps j)).read.length ≤ 1000000000000) := by rw [Hid]; omega
      clear hf hs hsucc hin hrl hi hYl hjR hpm
      obtain ⟨k, hk⟩ : ∃ k, wkOf ps (ranY s ps j) = k := ⟨_, rfl⟩
      obtain ⟨S, hS⟩ : ∃ S, ranS s ps j = S := ⟨_, rfl⟩
      have HG1 : Hid (WkAt Q w.heap.size wr g k) := by rw [← hk]; exact HG.out.walk
      have HG2 : Hid (Ride w.heap.size (n + j) bp ds wr S) := by rw [← hS]; exact HG.out.ride
      have HG3 : Hid (Only bp w wr) := HG.out.only
      have HKk : Hid (wkOf ps (ranY s ps j) = k) := hk
      rw [hk] at HHF HS HR1 HR2 HIN HRL
      rw [hS] at HR1 HR2
      clear hk hS HG
      obtain ⟨x, hx⟩ : ∃ x, inN p k.gone = x := ⟨_, rfl⟩
      rw [hx] at HR1 HR2 HIN
      clear hx
      go_wp2_with fail
      refine (lanes_any Q w.heap.size g k p wr HQ.out HG1.out HHF.out).mono ?_
      rintro e w4 ⟨rfl, k4, b4⟩
      rw [← HIN.out.1]
      have HG4 : Hid (WkAt Q w.heap.size w4 g (k.laned p)) := k4
      have HRd4 : Hid (Ride w.heap.size (n + j) bp ds w4 S) := HG2.out.below b4
      have HO4 : Hid (Only bp w w4) := only_below rfl HG3.out b4
      clear k4 b4 HG1 HG2 HG3
      go_wp2_with fail
      refine (clock_any (n + j) bp S ds x w4 HRd4.out.lies HRd4.out.ok (by have := HNL.out; omega) HIN.out.2).mono ?_
      rintro e w5 ⟨rfl, a5, o5⟩
      have HG5 : Hid (WkAt Q w.heap.size w5 g (k.laned p)) := HG4.out.only HQ2.out hbp o5
      have HRd5 : Hid (Ride w.heap.size (n + (j + 1)) bp ds w5 (S.clock x).1) := ⟨a5, by rw [clock_durs]; exact HRd4.out.durs.only o5, by rw [clock_durs]; exact HRd4.out.blk, clock_ok HRd4.out.ok x, hbp⟩
      have HO5 : Hid (Only bp w w5) := HO4.out.trans o5
      obtain ⟨y, HY⟩ : ∃ y, Hid ((S.clock x).2 = y) := ⟨_, rfl⟩
      rw [HY.out] at HR2 ⊢
      clear a5 o5 HG4 HRd4 HO4 HIN
      go_wp2_with fail
      refine (step_any Q w.heap.size g k p y w5 HQ.out HHF.out HG5.out HRL.out).mono ?_
      rintro e w6 ⟨rfl, k6, b6⟩
      have HG6 : Hid (Goes Q n bp g ds s ps w w6 (j + 1)) := by
        refine ⟨?_, ?_, only_below rfl HO5.out b6⟩
        · rw [HR2.out, HS.out y]; exact k6
        · rw [HR1.out]; exact HRd5.out.below b6
      clear k6 b6 HG5 HRd5 HO5 HHF HS HR1 HR2 HRL HKk HY
      go_wp2
      go_roundw
      case rel => exact ⟨j + 1, by omega, by go_num, HG6.out⟩
      case measure => simp [intOf]; omega
    · have hjE : E = j := by omega
      subst hjE
      have HW7 : Hid (WkAt Q w.heap.size wr g (wkOf ps (ranY s ps E))) := HG.out.walk
      have HR7 : Hid (Ride w.heap.size (n + E) bp ds wr (ranS s ps E)) := HG.out.ride
      have HO7 : Hid (Only bp w wr) := HG.out.only
      have HRD : Hid ((wkOf ps (ranY s ps E)).read = rdR ps (ranY s ps E)) := wk_read ps _ (by rw [ran_len s ps E HLe.out]; exact HLe.out) HK.out
      clear HG
      have HW8 := HW7
      have HO8 := HO7
      have HF : Hid (∃ ds', At wr bp (ranS s ps E) ds' ∧ Durs wr bp ds' (ranS s ps E).durs ∧ ds'.ownBlock = ds.ownBlock) := ⟨ds, HR7.out.lies, HR7.out.durs, rfl⟩
      clear HR7 HW7 HO7
      obtain ⟨rv, xv, dv, hg, hB, -, -, hdv, -⟩ := HW8.out
      obtain ⟨da, dc, rfl⟩ := own_slice hdv
      rw [HRD.out] at hdv hg
      have c3 : wr.cell? ⟨g, 3, none⟩ = some (.slice da (rdR ps (ranY s ps E)).length dc) := Blk.cell hg 3 rfl
      have HDV : Hid (Owns w.heap.size wr (.slice da (rdR ps (ranY s ps E)).length dc) (rdR ps (ranY s ps E))) := hdv
      clear hdv hg hB
      go_wp2
      refine bodyPost_ret (v := .tuple #[.slice da (rdR ps (ranY s ps E)).length dc, .int .i64 (E : Nat), .bool false, .int .i64 0]) (by simp [results, Tryz.results17, go_sem]) rfl ⟨_, rfl, HDV.out, HF.out, HO8.out⟩

theorem drive_nil (u : Value) (most : Int) (w : World) :
    Calls Tryz.prog 17 #[.pointer none, u, .int .i64 most] w fun e w' => e = .returned (.tuple #[.slice none 0 0, .int .i64 0, .bool false, .int .i64 1]) ∧ w = w' := by
  go_enter Tryz.func17, Tryz.ntmps17
  go_wp2
  refine bodyPost_ret (v := .tuple #[.slice none 0 0, .int .i64 0, .bool false, .int .i64 1]) (by simp [results, Tryz.results17, go_sem]) rfl ⟨rfl, rfl⟩
set_option maxRecDepth 100000 in
set_option maxHeartbeats 4000000 in
theorem drive_form (bp : Nat) (u : Value) (ps : List Ph) (most : Int) (w : World) (hu : PReads w u ps) (hp : PFit ps) (hok : okR ps = false) :
    Calls Tryz.prog 17 #[.pointer (some ⟨bp, 0, none⟩), u, .int .i64 most] w fun e w' => e = .returned (.tuple #[.slice none 0 0, .int .i64 0, .bool false, .int .i64 1000]) ∧ Below w.heap.size w w' := by
  have HC1 : Hid ((clkN ps : Int) = 0 ∧ clkX ps = 1000) := by rw [Hid, clkN, clkX, hok]; exact ⟨rfl, rfl⟩
  obtain ⟨ua, uc, rfl, -⟩ := id hu
  go_enter Tryz.func17, Tryz.ntmps17
  go_wp2_with fail
  refine (rowclocks_any _ ps _ hu hp).mono ?_
  rintro e w1 ⟨rfl, b1⟩
  rw [HC1.out.1, HC1.out.2]
  clear hu hp hok HC1
  go_wp2
  refine bodyPost_ret (v := .tuple #[.slice none 0 0, .int .i64 0, .bool false, .int .i64 1000]) (by simp [results, Tryz.results17, go_sem]) rfl ⟨rfl, b1⟩
set_option maxRecDepth 100000 in
set_option maxHeartbeats 4000000 in
theorem drive_held (n bp : Nat) (s : St) (ds u : Value) (ps : List Ph) (most : Int) (w : World) (h : At w bp s ds) (hl : s.sel = true) (hu : PReads w u ps) (hp : PFit ps) (hok : okR ps = true) :
    Calls Tryz.prog 17 #[.pointer (some ⟨bp, 0, none⟩), u, .int .i64 most] w fun e w' => e = .returned (.tuple #[.slice none 0 0, .int .i64 0, .bool false, .int .i64 1000]) ∧ Below w.heap.size w w' := by
  have HC1 : Hid ((clkN ps : Int) = (nR ps : Int) ∧ clkX ps = 0) := by rw [Hid, clkN, clkX, hok]; exact ⟨rfl, rfl⟩
  obtain ⟨ua, uc, rfl, -⟩ := id hu
  go_enter Tryz.func17, Tryz.ntmps17
  go_wp2_with fail
  refine (rowclocks_any _ ps _ hu hp).mono ?_
  rintro e w1 ⟨rfl, b1⟩
  rw [HC1.out.1, HC1.out.2]
  have HA : Hid (At w1 bp s ds) := h.below b1
  clear hu hp hok HC1 h
  go_wp2_with fail
  refine (select_no bp s ds w1 HA.out hl).mono ?_
  rintro e w2 ⟨rfl, rfl⟩
  go_wp2
  refine bodyPost_ret (v := .tuple #[.slice none 0 0, .int .i64 0, .bool false, .int .i64 1000]) (by simp [results, Tryz.results17, go_sem]) rfl ⟨rfl, b1⟩
end Go.Proofs.YtjhjghakfedeeaaGreat
