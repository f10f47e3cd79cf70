/-
  What a whole command asks for: a page's bytes, the status that is put, and the commands that turn the chip: each by a contract. Conditions: the chip lies in memory as told and is one that may be.
-/
import Derived.Test.YtjhjghakfedeeaaGreatBegin
namespace Go.Proofs.YtjhjghakfedeeaaGreat
open Go.RowKit Plain
set_option linter.unusedVariables false

/-- A page behind so many data bytes. -/
def pageTo (k : Cmd) (m : Nat) (j : Nat) : UInt8 := if (j + 32 - k.adr % 32) % 32 < m then k.data ((j + 32 - k.adr % 32) % 32) else 255
theorem pageTo_step (k : Cmd) (m j : Nat) (hm : m < 32) (hj : j < 32) : (if j = (k.adr + m) % 32 then k.data m else pageTo k m j) = pageTo k (m + 1) j := by
  unfold pageTo
  by_cases e : j = (k.adr + m) % 32
  · have e1 : (j + 32 - k.adr % 32) % 32 = m := by omega
    rw [if_pos e, e1, if_pos (by omega)]
  · have e1 : (j + 32 - k.adr % 32) % 32 ≠ m := by omega
    rw [if_neg e]
    by_cases h : (j + 32 - k.adr % 32) % 32 < m
    · rw [if_pos h, if_pos (by omega)]
    · rw [if_neg h, if_neg (by omega)]
theorem range_data {w : World} {g o : Nat} {k : Cmd} (h : w.rangeAt g o (cmdCells k)) (j : Nat) (hj : j < 32) : w.cell? ⟨g, o + 12 + j, none⟩ = some (.int .u8 ((k.data j).toNat : Int)) := by
  have := h (12 + j) _ (data_get k.data j hj ((cmdCells k).take 12) [.int .i64 (k.said : Int)])
  rw [show o + 12 + j = o + (12 + j) by omega]
  exact this
theorem range_below {w w' : World} {g o : Nat} {cs : List Value} (h : w.rangeAt g o cs) (k : Below w.heap.size w w') : w'.rangeAt g o cs := fun j v hv => by
  rw [k.cell (cell_lt (h j v hv))]; exact h j v hv

set_option maxRecDepth 100000 in
set_option maxHeartbeats 1600000 in
theorem pageText_any (n g o : Nat) (k : Cmd) (w : World) (h : w.rangeAt g o (cmdCells k)) (hk : k.Ok n) (hn : n < 4611686018427387903) :
    Calls Tryz.prog 134 #[.pointer (some ⟨g, o, none⟩)] w fun e w' => ∃ R, e = .returned (.string R) ∧ Hid (R = k.page) ∧ Below w.heap.size w w' := by
  obtain ⟨U, HU⟩ : ∃ U : ByteArray, Hid (U = ⟨(List.replicate 32 (255 : UInt8)).toArray⟩) := ⟨_, rfl⟩
  have HR : Hid (∀ u : World, Calls Tryz.prog 155 #[.string ⟨#[255]⟩, .int .i64 32] u fun e w' => e = .returned (.string U) ∧ Below u.heap.size u w') := fun u => (Tryz.strings_Repeat ⟨#[255]⟩ 32 u (by decide) (by decide)).mono fun e w' h => by rw [HU.out]; exact h
  have hUs : U.size = 32 := by rw [HU.out]; rfl
  have HUb : Hid (∀ j, j < 32 → ub U j = 255) := by show ∀ j, j < 32 → ub U j = 255; rw [HU.out]; decide +kernel
  have hc := hk.count
  have ha := hk.adr
  obtain ⟨q, Hq⟩ : ∃ q, Hid (min k.count 32 = q) := ⟨_, rfl⟩
  have hq : q ≤ 32 := by rw [← Hq.out]; exact Nat.min_le_right _ _
  have hqi : min (k.count : Int) 32 = (q : Int) := by rw [← Hq.out]; omega
  go_enter Tryz.func134, Tryz.ntmps134
  go_wp2_with (go_at_call 155; refine (HR.out _).mono ?_; rintro e w1 ⟨rfl, b1⟩; obtain ⟨W1, cap, hcv, hcap, hby, hbel, hsz⟩ := to_bytes_of w1 U 32 hUs; (have hr1 : W1.rangeAt g o (cmdCells k) := range_below (range_below h b1) hbel); (have c11 : W1.cell? ⟨g, o + 11, none⟩ = some (.int .i64 (k.count : Int)) := hr1 11 _ rfl))
  go_loopw [12] (fun i wr => ∃ m : Nat, m ≤ q ∧ i = .int .i64 m ∧ Bytes wr w1.heap.size 32 (pageTo k m) ∧ Below w1.heap.size w1 wr) (fun i _ => q - (intOf i).toNat)
  case atStart => exact ⟨0, Nat.zero_le _, rfl, hby.congr (fun j hj => by rw [HUb.out j hj]; unfold pageTo; rw [if_neg (by omega)]), hbel⟩
  case round =>
    obtain ⟨m, hm, rfl, hbb, hbl⟩ := hrel
    clear hcv hby hbel hr1 c11
    have hfin : Below w.heap.size w wr := below_then b1 hbl
    by_cases hlt : m < q
    · have hr : wr.rangeAt g o (cmdCells k) := range_below h hfin
      have c9 : wr.cell? ⟨g, o + 9, none⟩ = some (.int .i64 (k.adr : Int)) := hr 9 _ rfl
      have cd := range_data hr m (by omega)
      obtain ⟨J, HJ⟩ : ∃ J, Hid ((k.adr + m) % 32 = J) := ⟨_, rfl⟩
      have hJ : J < 32 := by rw [← HJ.out]; exact Nat.mod_lt _ (by decide)
      have hJi : ((k.adr : Int) + (m : Int)) % 32 = (J : Int) := by rw [← HJ.out]; simp
      have hcJ := (hbb J hJ).1
      have hfJ := (hbb J hJ).2
      have HB : Hid (Bytes wr w1.heap.size 32 (pageTo k m)) := hbb
      have Hr : Hid (wr.rangeAt g o (cmdCells k)) := hr
      clear hbb hr
      go_wp2
      go_region
      go_wp2
      go_roundw
      case rel => exact ⟨m + 1, by omega, by go_num, ((HB.out.set J hJ (k.data m)).congr (fun j hj => by rw [← HJ.out]; exact pageTo_step k m j (by omega) hj)).drew, (hbl.setCell (Nat.le_refl _) _).drew⟩
      case measure => simp [intOf]; omega
    · have hm' : m = q := by omega
      obtain ⟨R, hbk, HR2⟩ := hbb.back_is (f' := pageTo k q) (fun j hj => by rw [hm']) cap
      have HP : Hid (R = k.page) := by
        show R = _
        rw [HR2.out]
        unfold Cmd.page
        rw [Hq.out]
        rfl
      clear hbb hm'
      go_wp2
      go_ret
      exact ⟨R, rfl, HP, hfin⟩

theorem bit_four : ∀ n : Fin 256, (bits .and .u8 (n.val : Int) 4 != 0) = decide (n.val / 4 % 2 = 1) := by decide +kernel
theorem bit_two : ∀ n : Fin 256, (bits .and .u8 (n.val : Int) 2 != 0) = decide (n.val / 2 % 2 = 1) := by decide +kernel
theorem cmd_length (k : Cmd) : (cmdCells k).length = 45 := by simp [cmdCells, dataCells]
theorem cmd_data (k : Cmd) (j : Nat) (hj : j < 32) : (cmdCells k)[12 + j]? = some (.int .u8 ((k.data j).toNat : Int)) := data_get k.data j hj ((cmdCells k).take 12) [.int .i64 (k.said : Int)]

set_option maxRecDepth 100000 in
set_option maxHeartbeats 1600000 in
theorem putStatus_any (b : Nat) (s : St) (ds : Value) (k : Cmd) (w : World) (h : At w b s ds) :
    Calls Tryz.prog 132 #[.pointer (some ⟨b, 0, none⟩), .agg (cmdCells k).toArray] w fun e w' => e = .returned (.tuple #[]) ∧ At w' b (s.putStatus k) ds ∧ Only b w w' := by
  obtain ⟨C, HC⟩ : ∃ C, Hid (C = (cmdCells k).toArray) := ⟨_, rfl⟩
  rw [← HC.out]
  have hne : w.heap.size ≠ b := by have := Blk.lt h; omega
  have g0 : Blk (w.alloc (.cells C 126)) w.heap.size 126 (cmdCells k) := Blk.new _ _ _ _ HC.out
  have h0 : At (w.alloc (.cells C 126)) b s ds := Blk.alloc h _
  have o0 : Only b w (w.alloc (.cells C 126)) := (Only.refl b w).alloc _
  have k11 : C[11]? = some (.int .i64 (k.count : Int)) := by rw [HC.out, List.getElem?_toArray]; rfl
  have k12 : C[12]? = some (.int .u8 ((k.data 0).toNat : Int)) := by rw [HC.out, List.getElem?_toArray]; exact cmd_data k 0 (by decide)
  have k13 : C[13]? = some (.int .u8 ((k.data 1).toNat : Int)) := by rw [HC.out, List.getElem?_toArray]; exact cmd_data k 1 (by decide)
  have c16 : (w.alloc (.cells C 126)).cell? ⟨b, 16, none⟩ = some (.bool s.en) := Blk.cell h0 16 rfl
  have c1 : (w.alloc (.cells C 126)).cell? ⟨b, 1, none⟩ = some (.bool s.prot) := Blk.cell h0 1 rfl
  have c2 : (w.alloc (.cells C 126)).cell? ⟨b, 2, none⟩ = some (.bool s.quad) := Blk.cell h0 2 rfl
  have f16 := Blk.frozen h0 16
  have f1 := Blk.frozen h0 1
  have f2 := Blk.frozen h0 2
  have H0 : Hid (At (w.alloc (.cells C 126)) b s ds) := h0
  clear h0 g0
  cases he : s.en with
  | false =>
    have HE : Hid (s.putStatus k = s) := by show _ = _; unfold St.putStatus; rw [if_neg (fun h => by rw [he] at h; exact absurd h.1 (by decide))]
    rw [he] at c16
    go_enter Tryz.func132, Tryz.ntmps132
    go_wp2
    first | go_end0 | refine bodyPost_ret (results_none rfl _ _ _) rfl ?_
    rw [HE.out]
    exact ⟨rfl, H0.out, o0⟩
  | true =>
    rw [he] at c16
    by_cases e2 : k.count = 2
    · have HE : Hid (s.putStatus k = { s with prot := decide ((k.data 0).toNat / 4 % 2 = 1), quad := decide ((k.data 1).toNat / 2 % 2 = 1), en := false }) := by show _ = _; unfold St.putStatus; rw [if_pos ⟨he, e2⟩]
      have x0 : (bits .and .u8 ((k.data 0).toNat : Int) 4 != 0) = decide ((k.data 0).toNat / 4 % 2 = 1) := bit_four ⟨_, (k.data 0).toNat_lt⟩
      have x1 : (bits .and .u8 ((k.data 1).toNat : Int) 2 != 0) = decide ((k.data 1).toNat / 2 % 2 = 1) := bit_two ⟨_, (k.data 1).toNat_lt⟩
      obtain ⟨p0, P0⟩ : ∃ p, Hid (decide ((k.data 0).toNat / 4 % 2 = 1) = p) := ⟨_, rfl⟩
      obtain ⟨p1, P1⟩ : ∃ p, Hid (decide ((k.data 1).toNat / 2 % 2 = 1) = p) := ⟨_, rfl⟩
      rw [P0.out] at x0
      rw [P1.out] at x1
      rw [e2] at k11
      go_enter Tryz.func132, Tryz.ntmps132
      go_wp2
      first | go_end0 | refine bodyPost_ret (results_none rfl _ _ _) rfl ?_
      rw [HE.out, P0.out, P1.out]
      exact ⟨rfl, Blk.set (Blk.set (Blk.set H0.out 1 _) 2 _) 16 _, ((o0.set 1 _).set 2 _).set 16 _⟩
    · have HE : Hid (s.putStatus k = s) := by show _ = _; unfold St.putStatus; rw [if_neg (fun h => e2 h.2)]
      have x2 : ((k.count : Int) != 2) = true := bne_iff_ne.2 (by omega)
      go_enter Tryz.func132, Tryz.ntmps132
      go_wp2
      first | go_end0 | refine bodyPost_ret (results_none rfl _ _ _) rfl ?_
      rw [HE.out]
      exact ⟨rfl, H0.out, o0⟩

theorem page_at (a : Nat) (h : a < 4096) : IntKind.i64.wrap ((a : Int) - (a : Int).tmod 32) = ((a - a % 32 : Nat) : Int) := by
  rw [Int.tmod_eq_emod_of_nonneg (by omega), IntWalk.i64_in _ (by omega)]
  omega
theorem begin_at (n b : Nat) (s : St) (ds : Value) (er : Bool) (x : Int) (a : Nat) (d : ByteArray) (w : World) (hx : x = (a : Int)) (h : At w b s ds) (hd : Durs w b ds s.durs) (hs : s.Ok n) (ha : a < 4096) :
    Calls Tryz.prog 133 #[.pointer (some ⟨b, 0, none⟩), .agg #[.int .i64 0, .bool er, .int .i64 x, .string d]] w fun e w' => e = .returned (.tuple #[]) ∧ ∃ ds', At w' b (s.begin er a d) ds' ∧ Durs w' b ds' (s.begin er a d).durs ∧ Only b w w' ∧ ds'.ownBlock = ds.ownBlock := by
  subst hx; exact begin_any n b s ds er a d w h hd hs ha
/-- The chip behind a command, its durations too. -/
def Behind (b : Nat) (ds : Value) (w : World) (s : St) (e : Ending) (w' : World) : Prop := e = .returned (.tuple #[]) ∧ ∃ ds', At w' b s ds' ∧ Durs w' b ds' s.durs ∧ Only b w w' ∧ ds'.ownBlock = ds.ownBlock

set_option maxRecDepth 100000 in
set_option maxHeartbeats 3200000 in
theorem obey_any (n b : Nat) (s : St) (ds : Value) (k : Cmd) (w : World) (h : At w b s ds) (hd : Durs w b ds s.durs) (hs : s.Ok n) (hk : k.Ok n) (hn : n < 4611686018427387903) :
    Calls Tryz.prog 102 #[.pointer (some ⟨b, 0, none⟩), .agg (cmdCells k).toArray] w (Behind b ds w (s.obey k)) := by
  obtain ⟨C, HC⟩ : ∃ C, Hid (C = (cmdCells k).toArray) := ⟨_, rfl⟩
  rw [← HC.out]
  have hne : w.heap.size ≠ b := by have := Blk.lt h; omega
  have g0 : Blk (w.alloc (.cells C 126)) w.heap.size 126 (cmdCells k) := Blk.new _ _ _ _ HC.out
  have h0 : At (w.alloc (.cells C 126)) b s ds := Blk.alloc h _
  have o0 : Only b w (w.alloc (.cells C 126)) := (Only.refl b w).alloc _
  have D0 : Hid (Durs (w.alloc (.cells C 126)) b ds s.durs) := hd.only o0
  have k0 : C[0]? = some (.int .i64 (k.op.byte : Int)) := by rw [HC.out, List.getElem?_toArray]; rfl
  have k9 : C[9]? = some (.int .i64 (k.adr : Int)) := by rw [HC.out, List.getElem?_toArray]; rfl
  have k11 : C[11]? = some (.int .i64 (k.count : Int)) := by rw [HC.out, List.getElem?_toArray]; rfl
  have c16 : (w.alloc (.cells C 126)).cell? ⟨b, 16, none⟩ = some (.bool s.en) := Blk.cell h0 16 rfl
  have c17 : (w.alloc (.cells C 126)).cell? ⟨b, 17, none⟩ = some (.bool s.sus) := Blk.cell h0 17 rfl
  have f16 := Blk.frozen h0 16
  have f17 := Blk.frozen h0 17
  have H0 : Hid (At (w.alloc (.cells C 126)) b s ds) := h0
  have G0 : Hid (Blk (w.alloc (.cells C 126)) w.heap.size 126 (cmdCells k)) := g0
  have ha := hk.adr
  clear h0 g0
  by_cases e6 : k.op.byte = 6
  · have HE : Hid (s.obey k = { s with en := true }) := by show _ = _; unfold St.obey; rw [if_pos e6]
    rw [e6] at k0
    go_enter Tryz.func102, Tryz.ntmps102
    go_wp2
    first | go_end0 | refine bodyPost_ret (results_none rfl _ _ _) rfl ?_
    rw [HE.out]
    exact ⟨rfl, ds, Blk.set H0.out 16 _, D0.out.only ((Only.refl b _).set 16 _), o0.set 16 _, rfl⟩
  by_cases e4 : k.op.byte = 4
  · have HE : Hid (s.obey k = { s with en := false }) := by show _ = _; unfold St.obey; rw [if_neg e6, if_pos e4]
    rw [e4] at k0
    go_enter Tryz.func102, Tryz.ntmps102
    go_wp2
    first | go_end0 | refine bodyPost_ret (results_none rfl _ _ _) rfl ?_
    rw [HE.out]
    exact ⟨rfl, ds, Blk.set H0.out 16 _, D0.out.only ((Only.refl b _).set 16 _), o0.set 16 _, rfl⟩
  by_cases e117 : k.op.byte = 117
  · have HE : Hid (s.obey k = { s with sus := decide (0 < s.left) && s.erases }) := by show _ = _; unfold St.obey; rw [if_neg e6, if_neg e4, if_pos e117]
    rw [e117] at k0
    have c20 : (w.alloc (.cells C 126)).cell? ⟨b, 20, none⟩ = some (.int .i64 (s.left : Int)) := Blk.cell H0.out 20 rfl
    have c21 : (w.alloc (.cells C 126)).cell? ⟨b, 21, none⟩ = some (.bool s.erases) := Blk.cell H0.out 21 rfl
    have c22 : (w.alloc (.cells C 126)).cell? ⟨b, 22, none⟩ = some (.int .i64 (s.wat : Int)) := Blk.cell H0.out 22 rfl
    have c23 : (w.alloc (.cells C 126)).cell? ⟨b, 23, none⟩ = some (.string s.wdata) := Blk.cell H0.out 23 rfl
    cases el : decide (0 < s.left) with
    | false =>
      rw [el] at HE
      go_enter Tryz.func102, Tryz.ntmps102
      go_wp2_with (go_at_call 68; refine (goes_any _ _ _ _ _).mono ?_; rintro e w1 ⟨rfl, b1⟩; rw [el]; (have h1 : At w1 b s ds := Blk.below H0.out b1); (have q17 : w1.cell? ⟨b, 17, none⟩ = some (.bool s.sus) := Blk.cell h1 17 rfl); (have y17 := Blk.frozen h1 17))
      first | go_end0 | refine bodyPost_ret (results_none rfl _ _ _) rfl ?_
      rw [HE.out]
      exact ⟨rfl, ds, Blk.set h1 17 _, D0.out.only ((Only.of_below b1).set 17 _), (o0.below b1).set 17 _, rfl⟩
    | true =>
      rw [el] at HE
      go_enter Tryz.func102, Tryz.ntmps102
      go_wp2_with (go_at_call 68; refine (goes_any _ _ _ _ _).mono ?_; rintro e w1 ⟨rfl, b1⟩; rw [el]; (have h1 : At w1 b s ds := Blk.below H0.out b1); (have q17 : w1.cell? ⟨b, 17, none⟩ = some (.bool s.sus) := Blk.cell h1 17 rfl); (have q21 : w1.cell? ⟨b, 21, none⟩ = some (.bool s.erases) := Blk.cell h1 21 rfl); (have y17 := Blk.frozen h1 17))
      first | go_end0 | refine bodyPost_ret (results_none rfl _ _ _) rfl ?_
      rw [HE.out]
      exact ⟨rfl, ds, Blk.set h1 17 _, D0.out.only ((Only.of_below b1).set 17 _), (o0.below b1).set 17 _, rfl⟩
  by_cases e122 : k.op.byte = 122
  · have HE : Hid (s.obey k = { s with sus := false }) := by show _ = _; unfold St.obey; rw [if_neg e6, if_neg e4, if_neg e117, if_pos e122]
    rw [e122] at k0
    go_enter Tryz.func102, Tryz.ntmps102
    go_wp2
    first | go_end0 | refine bodyPost_ret (results_none rfl _ _ _) rfl ?_
    rw [HE.out]
    exact ⟨rfl, ds, Blk.set H0.out 17 _, D0.out.only ((Only.refl b _).set 17 _), o0.set 17 _, rfl⟩
  by_cases e1 : k.op.byte = 1
  · have HE : Hid (s.obey k = s.putStatus k) := by show _ = _; unfold St.obey; rw [if_neg e6, if_neg e4, if_neg e117, if_neg e122, if_pos e1]
    rw [e1] at k0
    have Hrg : Hid ((w.alloc (.cells C 126)).rangeAt w.heap.size 0 (cmdCells k)) := Blk.range G0.out 0 _ (by rw [List.drop_zero, List.take_length])
    have Hin : Hid ((Tryz.prog.info? 126).map (·.size) = some (cmdCells k).length) := by show _ = _; rw [cmd_length]; kernel_rfl
    have Hps : Hid (∀ u : World, At u b s ds → Calls Tryz.prog 132 #[.pointer (some ⟨b, 0, none⟩), .agg (cmdCells k).toArray] u fun e w' => e = .returned (.tuple #[]) ∧ At w' b (s.putStatus k) ds ∧ Only b u w') := fun u hu => putStatus_any b s ds k u hu
    have Hdu : Hid ((s.putStatus k).durs = s.durs) := by show _ = _; unfold St.putStatus; split <;> rfl
    go_enter Tryz.func102, Tryz.ntmps102
    go_wp2_with (first | (refine wpList_load_mid rfl 126 _ rfl w.heap.size 0 rfl (cmdCells k) _ Hrg.out Tryz.underlying126 rfl Hin.out ?_) | (go_at_call 132; refine (Hps.out _ H0.out).mono ?_; rintro e w1 ⟨rfl, h1, o1⟩))
    first | go_end0 | refine bodyPost_ret (results_none rfl _ _ _) rfl ?_
    rw [HE.out]
    exact ⟨rfl, ds, h1, by rw [Hdu.out]; exact D0.out.only o1, o0.trans o1, rfl⟩
  by_cases e32 : k.op.byte = 32
  · have HE : Hid (s.obey k = s.begin true k.adr ⟨#[]⟩) := by show _ = _; unfold St.obey; rw [if_neg e6, if_neg e4, if_neg e117, if_neg e122, if_neg e1, if_neg (by omega), if_pos e32]
    rw [e32] at k0
    go_enter Tryz.func102, Tryz.ntmps102
    go_wp2_with (go_at_call 133; refine (begin_any n b s ds true k.adr ⟨#[]⟩ _ H0.out D0.out hs ha).mono ?_; rintro e w1 ⟨rfl, ds1, h1, d1, o1, k1⟩)
    first | go_end0 | refine bodyPost_ret (results_none rfl _ _ _) rfl ?_
    rw [HE.out]
    exact ⟨rfl, ds1, h1, d1, o0.trans o1, k1⟩
  by_cases e2 : k.op.byte = 2
  · rw [e2] at k0
    by_cases ec : 0 < k.count
    · have HE : Hid (s.obey k = s.begin false (k.adr - k.adr % 32) k.page) := by show _ = _; unfold St.obey; rw [if_neg e6, if_neg e4, if_neg e117, if_neg e122, if_neg e1, if_pos e2, if_pos ec]
      have ec' : decide (0 < k.count) = true := decide_eq_true ec
      go_enter Tryz.func102, Tryz.ntmps102
      go_wp2_with fail
      generalize hW : (w.alloc (.cells C 126)) = W at *
      have ca : W.cell? ⟨w.heap.size, 9, none⟩ = some (.int .i64 (k.adr : Int)) := Blk.cell G0.out 9 rfl
      have S0 : W.drew.cell? ⟨w.heap.size, 9, none⟩ = some (.int .i64 (k.adr : Int)) := ca
      have hlG : w.heap.size < W.heap.size := Blk.lt G0.out
      clear hW
      go_region_held3 (fun v => v.cell? ⟨w.heap.size, 9, none⟩ = some (.int .i64 (k.adr : Int))) (first | exact S0 | assumption)
        (first | (go_at_call 134; refine (pageText_any n w.heap.size 0 k _ (Blk.range (Blk.drew G0.out) 0 _ (by rw [List.drop_zero, List.take_length])) hk hn).mono ?_; rintro e w1 ⟨R, rfl, HR, b1⟩; (have h1 : At w1 b s ds := Blk.below (Blk.drew H0.out) b1); (have d1 : Durs w1 b ds s.durs := D0.out.only ((Only.refl b W).drew.below b1)); (have o1 : Only b w w1 := o0.drew.below b1); (have s1 : w1.cell? ⟨w.heap.size, 9, none⟩ = some (.int .i64 (k.adr : Int)) := (by rw [b1.cell (by exact hlG)]; exact S0)); (have l1 : w.heap.size < w1.heap.size := Nat.lt_of_lt_of_le hlG b1.size)) | (go_at_call 133; refine (begin_at n b s ds false _ (k.adr - k.adr % 32) R _ (page_at k.adr ha) h1 d1 hs (by omega)).mono ?_; rintro e w2 ⟨rfl, ds2, h2, d2, o2, k2⟩; (have s2 : w2.cell? ⟨w.heap.size, 9, none⟩ = some (.int .i64 (k.adr : Int)) := (by rw [o2.cell l1 hne]; exact s1))))
      go_wp2
      first | go_end0 | refine bodyPost_ret (results_none rfl _ _ _) rfl ?_
      rw [HE.out, ← HR.out]
      exact ⟨rfl, ds2, h2, d2, o1.trans o2, k2⟩
    · have HE : Hid (s.obey k = s) := by show _ = _; unfold St.obey; rw [if_neg e6, if_neg e4, if_neg e117, if_neg e122, if_neg e1, if_pos e2, if_neg ec]
      rw [show k.count = 0 by omega] at k11
      clear ec
      go_enter Tryz.func102, Tryz.ntmps102
      go_wp2
      first | go_end0 | refine bodyPost_ret (results_none rfl _ _ _) rfl ?_
      rw [HE.out]
      exact ⟨rfl, ds, H0.out, D0.out, o0, rfl⟩
  · have HE : Hid (s.obey k = s) := by show _ = _; unfold St.obey; rw [if_neg e6, if_neg e4, if_neg e117, if_neg e122, if_neg e1, if_neg e2, if_neg e32]
    have i6 : ((k.op.byte : Int) == 6) = false := beq_eq_false_iff_ne.2 (by omega)
    have i4 : ((k.op.byte : Int) == 4) = false := beq_eq_false_iff_ne.2 (by omega)
    have i117 : ((k.op.byte : Int) == 117) = false := beq_eq_false_iff_ne.2 (by omega)
    have i122 : ((k.op.byte : Int) == 122) = false := beq_eq_false_iff_ne.2 (by omega)
    have i1 : ((k.op.byte : Int) == 1) = false := beq_eq_false_iff_ne.2 (by omega)
    have i2 : ((k.op.byte : Int) == 2) = false := beq_eq_false_iff_ne.2 (by omega)
    have i32 : ((k.op.byte : Int) == 32) = false := beq_eq_false_iff_ne.2 (by omega)
    go_enter Tryz.func102, Tryz.ntmps102
    go_wp2
    first | go_end0 | refine bodyPost_ret (results_none rfl _ _ _) rfl ?_
    rw [HE.out]
    exact ⟨rfl, ds, H0.out, D0.out, o0, rfl⟩
end Go.Proofs.YtjhjghakfedeeaaGreat
