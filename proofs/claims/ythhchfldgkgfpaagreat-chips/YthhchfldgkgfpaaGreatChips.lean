/-
  Chips: any acts are answered by the program's chip as by the document's own. No conditions.
-/
import Derived.Test.YthhchfldgkgfpaaGreatRows
import Derived.Test.YthhchfldgkgfpaaGreatEach
import Derived.Test.YthhchfldgkgfpaaGreatLend
import Derived.Test.YthhchfldgkgfpaaGreatAwake
import Derived.Deep.CutBlock
import Derived.Deep.CutRange
import Derived.Deep.DeepCutAuto
import Derived.Deep.RegionHeld3
import Derived.Deep.QuietTactic
import Derived.BigQuiet
import Derived.WalkKit
import Derived.ProofKit
import Derived.OpenShut
import Derived.ShutString
import Derived.ChangeOld
import Derived.SizedLaws
import Derived.Below
namespace Go.Proofs.YthhchfldgkgfpaaGreat.chips
open Go.ChangeShapes Go.WideShapes Go.ChangeAt Go.RowKit Plain
open Go.ChangeMaps (open_string shut_string)
set_option linter.unusedVariables false

theorem own : ownKnob Tryz.prog.godebug = none := by kernel_rfl
theorem laidOut : laidOutB Tryz.prog = true := by kernel_rfl

theorem bytes_lt {w : World} {g : Nat} {f : Nat → UInt8} (h : Bytes w g 4096 f) : g < w.heap.size := cell_lt (h 0 (by omega)).1
theorem bytes_below {w w' : World} {g B : Nat} {f : Nat → UInt8} (h : Bytes w g 4096 f) (hg : g < B) (k : Below B w w') : Bytes w' g 4096 f := by
  intro j hj
  obtain ⟨h1, h2⟩ := h j hj
  have e := k.block g hg
  refine ⟨(World.cell?_of_block (w := w) e).trans h1, ?_⟩
  rw [← h2]
  unfold World.frozen?
  rw [e]
set_option maxRecDepth 100000 in
set_option maxHeartbeats 8000000 in
theorem walk (a0 : ByteArray) (a1 : Option Addr) (len1 cap1 : Nat) (L : List Act1) (w : World) (w0 : a0.size ≤ maxLen) (w1 : Dos w a1 len1 cap1 L) :
    Calls Tryz.prog 3 #[.string a0, .slice a1 len1 cap1] w fun e w' => e = .returned (.bool true) ∧ Below w.heap.size w w' := by
  have HD : Hid (Dos w a1 len1 cap1 L) := w1
  clear w1
  unfold maxLen at w0
  have hget := get_ub a0
  go_enter Tryz.func3, Tryz.ntmps3
  go_upto_block 0 with (go_at_call 6; refine (refBlank_is _).mono ?_; rintro e w1 ⟨F, rfl, HF, hb⟩; obtain ⟨W1, cap, hcv, hcap, hby, hbel, hsz⟩ := to_bytes_of w1 F 4096 (full_size HF.out))
  go_cut [6] from 26 to 45 (fun v wc => Hid (Bytes wc w1.heap.size 4096 (fun j => if a0.size = 0 then 255 else ub a0 (j % a0.size))) ∧ Hid (Below w1.heap.size w1 wc))
  case first => as_aux_lemma =>
    go_wp2_with fail
    go_loopw [6] (fun i wr => ∃ k : Nat, k ≤ 4096 ∧ i = .int .i64 k ∧ (0 < k → 0 < a0.size) ∧ Bytes wr w1.heap.size 4096 (fun j => if j < k then ub a0 (j % a0.size) else 255) ∧ Below w1.heap.size w1 wr) (fun i _ => 4096 - (intOf i).toNat)
    case atStart => exact ⟨0, Nat.zero_le _, rfl, fun h => absurd h (by omega), hby.congr (fun j hj => by rw [if_neg (by omega)]; exact full_ub HF.out hj), hbel⟩
    case round =>
      obtain ⟨k, hk, rfl, hpos, hbb, hbl⟩ := hrel
      clear hcv hby hbel
      by_cases hlt : k < 4096 ∧ 0 < a0.size
      · obtain ⟨hlt, hp⟩ := hlt
        have hc := (hbb k hlt).1
        have hf := (hbb k hlt).2
        have hlm : k % a0.size < a0.size := Nat.mod_lt _ hp
        go_wp2
        go_roundw
        case rel => exact ⟨k + 1, by omega, by go_num, fun _ => hp, (hbb.set k hlt _).congr (fun j _ => wide_step a0 k j), hbl.setCell (Nat.le_refl _) _⟩
        case measure => simp [intOf]; omega
      · have HE : Hid (Bytes wr w1.heap.size 4096 (fun j => if a0.size = 0 then 255 else ub a0 (j % a0.size))) := hbb.congr (fun j hj => by
          by_cases h0 : a0.size = 0
          · rw [if_pos h0, if_neg (by omega)]
          · rw [if_neg h0, if_pos (by omega)])
        have HB : Hid (Below w1.heap.size w1 wr) := hbl
        clear hbb hbl
        by_cases h4 : k < 4096
        · have h0 : a0.size = 0 := by omega
          have d1 : decide (0 < a0.size) = false := decide_eq_false (by omega)
          go_wp2_with fail
          go_meet
          case rel => exact ⟨HE, HB⟩
        · have d1 : decide ((k : Int) < 4096) = false := decide_eq_false (by omega)
          go_wp2_with fail
          go_meet
          case rel => exact ⟨HE, HB⟩
  case rest => as_aux_lemma =>
    obtain ⟨HE, HB⟩ := hcut
    have hwc : Below w.heap.size w wc := hb.trans (HB.out.mono hb.size)
    have Hwc : Hid (Below w.heap.size w wc) := hwc
    have hg1 : w1.heap.size < wc.heap.size := bytes_lt HE.out
    obtain ⟨R, hbk, HR⟩ := HE.out.back_is (fun j _ => rfl) cap
    have HR' : Hid (R = wide a0) := HR.out
    clear hcv hby hbel hget HB hwc HR
    go_wp2_with fail
    refine (new_any R _ (by rw [HR'.out]; exact wide_size a0)).mono ?_
    rintro e w2 ⟨bp, rfl, hbp, hat, b2⟩
    obtain ⟨R2, hbk2, HR2⟩ := (bytes_below HE.out hg1 b2).back_is (fun j _ => rfl) cap
    have HR2' : Hid (R2 = wide a0) := HR2.out
    clear hbk HE HR2
    go_wp2_with fail
    refine (rnew_any (fun _ => False) 0 R2 _ (by rw [HR2'.out]; exact wide_size a0)).mono ?_
    rintro e w3 ⟨b, rfl, -, hr⟩
    rw [HR2'.out] at hr
    rw [HR'.out] at hat
    have hB := both_start (below_then Hwc.out b2) (Nat.le_trans Hwc.out.size hbp) hat hr (wide_size a0)
    have hS : Hid (Sim (newSt (wide a0)) (newR (wide a0))) := sim_new _
    generalize newSt (wide a0) = s0 at hB hS
    generalize newR (wide a0) = r0 at hB hS
    clear hbk2 hat hr b2 hbp HR' HR2' Hwc hg1 hb HF hsz hcap
    go_upto_block 2 with (go_at_call 9; refine (num_any _ _).mono ?_; rintro e w' ⟨rfl, rfl⟩)
    go_cut [11, 12, 13, 14, 15, 16, 17, 18, 19, 20, 21, 22, 23] from 70 to 221 (fun v11 v12 v13 v14 v15 v16 v17 v18 v19 v20 v21 v22 v23 wc => ∃ (n : Nat) (s : St) (r : RSt), Hid (Both (fun k => k < w.heap.size) n bp b w wc s r) ∧ Hid (Sim s r))
    case rest => as_aux_lemma =>
      obtain ⟨n, s, r, hB, hS⟩ := hcut
      have hBd : Hid (Both (fun k => k < w.heap.size) n bp b w wc.drew s r) := both_below hB ((Below.refl _ _).drew)
      obtain ⟨y, Hy⟩ : ∃ y, Hid (s.A = y) := ⟨_, rfl⟩
      obtain ⟨ry, -, -, -⟩ := both_reads hBd hS
      rw [Hy.out] at ry
      have hold := both_old hBd
      have Hold : Hid (Below w.heap.size w wc.drew) := hold
      clear hB hold
      go_wp2_with fail
      go_region_held3 (fun z => z.cell? ⟨b, 0, none⟩ = some (.string y)) (first | exact ry | exact (b4.cell (cell_lt ry)).trans ry) (first | (go_at_call 27; refine (two_cells hBd).mono ?_; rintro e w' ⟨rfl, rfl⟩; rw [Hy.out]) | (go_at_call 28; refine (awake_any _).mono ?_; rintro e u4 ⟨rfl, b4⟩))
      all_goals go_wp2
      all_goals go_ret
      all_goals exact ⟨rfl, below_then Hold.out b4⟩
    case first => as_aux_lemma =>
      go_wp2_with fail
      go_loopw [11] (fun i wr => ∃ (j n : Nat) (s : St) (r : RSt), j ≤ len1 ∧ j ≤ 60 ∧ n ≤ 900 * j ∧ i = .int .i64 j ∧ Hid (Both (fun k => k < w.heap.size) n bp b w wr s r) ∧ Hid (Sim s r)) (fun i _ => (len1 - intOf i).toNat)
      case atStart => exact ⟨0, 0, s0, r0, by omega, by omega, by omega, rfl, hB, hS⟩
      case round =>
        obtain ⟨j, n, s, r, hj1, hj2, hn, rfl, HB, HS⟩ := hrel
        clear hB hS
        by_cases hlt : j < len1 ∧ j < 60
        · obtain ⟨hlt1, hlt2⟩ := hlt
          obtain ⟨ga, oa, rfl, hDo⟩ := HD.out.2.2 (by omega)
          obtain ⟨D, -, hAt⟩ := hDo j hlt1
          obtain ⟨dk, dr, dx, dm⟩ := D
          have hold := both_old HB
          rw [Nat.mul_comm 3 j] at hAt
          have c0 : wr.cell? ⟨ga, oa + j * 3, none⟩ = some (.int .i64 dk) := (hold.cell (cell_lt hAt.kind)).trans hAt.kind
          have c1 : wr.cell? ⟨ga, oa + j * 3 + 1, none⟩ = some dr := (hold.cell (cell_lt hAt.row)).trans hAt.row
          have c2 : wr.cell? ⟨ga, oa + j * 3 + 2, none⟩ = some (.string dm) := (hold.cell (cell_lt hAt.mask)).trans hAt.mask
          obtain ⟨xa, xn, xc, hdr, hCame, hxb⟩ := hAt.came
          have hms := hAt.size
          have hdr' : dr = .slice xa xn xc := hdr
          subst hdr'
          have HC : Hid (Came w xa xn xc dx) := hCame
          have Hms : Hid (dm.size ≤ maxLen) := hms
          clear hAt hDo hold hCame hms
          go_upto_block 4 with fail
          obtain ⟨dB, hdB⟩ : ∃ dB, dB = wr.heap.size := ⟨_, rfl⟩
          obtain ⟨v, Hv⟩ : ∃ v, Hid (wr.alloc (.cells #[.int .i64 dk, .slice xa xn xc, .string dm] 35) = v) := ⟨_, rfl⟩
          obtain ⟨Q1, HQ1⟩ : ∃ Q1 : Nat → Prop, Hid ((fun k => k < w.heap.size ∨ (wr.heap.size ≤ k ∧ k < v.heap.size)) = Q1) := ⟨_, rfl⟩
          have HBv : Hid (Both Q1 n bp b v v s r) := by
            have h := both_more HB (below_new wr (.cells #[.int .i64 dk, .slice xa xn xc, .string dm] 35))
            rw [Hv.out, HQ1.out] at h
            exact h
          have HBb : Hid (Below wr.heap.size wr v) := by rw [← Hv.out]; exact below_new _ _
          have HQd : Hid (Q1 dB) := by
            rw [← HQ1.out, ← Hv.out, hdB]
            exact .inr ⟨Nat.le_refl _, by rw [World.size_alloc]; omega⟩
          have HQw : Hid (∀ k, k < w.heap.size → Q1 k) := fun k hk => by rw [← HQ1.out]; exact .inl hk
          have HK : Hid (∀ (m : Nat) (s' : St) (r' : RSt) (u : World), Hid (Both Q1 m bp b v u s' r') → u.cell? ⟨dB, 0, none⟩ = some (.int .i64 dk) ∧ u.cell? ⟨dB, 1, none⟩ = some (.slice xa xn xc) ∧ u.cell? ⟨dB, 2, none⟩ = some (.string dm)) := fun m s' r' u hb => by
            rw [both_cell hb (p := ⟨dB, 0, none⟩) HQd.out, both_cell hb (p := ⟨dB, 1, none⟩) HQd.out, both_cell hb (p := ⟨dB, 2, none⟩) HQd.out, ← Hv.out, hdB]
            exact ⟨by simp, by simp, by simp⟩
          have HCv : Hid (∀ (m : Nat) (s' : St) (r' : RSt) (u : World), Hid (Both Q1 m bp b v u s' r') → Came u xa xn xc dx) := fun m s' r' u hb => by
            obtain ⟨e1, h1⟩ := HC.out
            refine ⟨e1, ?_⟩
            rcases h1 with h1 | ⟨x, rfl, h2, h3⟩
            · exact .inl h1
            · refine .inr ⟨x, rfl, h2, fun t ht => ?_⟩
              have h4 := h3 t ht
              have hl := cell_lt h4
              rw [both_cell hb (HQw.out _ hl), HBb.out.cell (Nat.lt_of_lt_of_le hl (both_old HB).size), (both_old HB).cell hl]
              exact h4
          rw [Hv.out, ← hdB]
          clear c0 c1 c2 HC hdB Hv HD
          go_cut [13, 14, 15, 16, 17, 18] from 70 to 221 (fun v13 v14 v15 v16 v17 v18 wd => ∃ (m : Nat) (s' : St) (r' : RSt), m ≤ 900 * (j + 1) ∧ Hid (Both Q1 m bp b v wd s' r') ∧ Hid (Sim s' r'))
          case first => as_aux_lemma =>
            by_cases k0 : dk = 0
            · as_aux_lemma =>
                subst k0
                go_wp2_with fail
                refine (two_select HBv).mono ?_
                rintro e u1 ⟨rfl, B1⟩
                go_wp2_with (go_at_call 9; refine (num_any _ _).mono ?_; rintro e w' ⟨rfl, rfl⟩)
                refine (two_rselect B1).mono ?_
                rintro e u2 ⟨rfl, B2⟩
                have S2 := sim_sel HS
                rw [← HS.out.sel]
                generalize selX s.sel = x
                generalize selS s = s2 at B2 S2
                generalize selR r = r2 at B2 S2
                clear B1 HBv HB HS
                go_wp2_with fail
                go_meet
                case rel => exact ⟨n, s2, r2, by omega, B2, S2⟩
            · have e0 : (dk == 0) = false := by simp [k0]
              by_cases k1 : dk = 1
              · as_aux_lemma =>
                  subst k1
                  go_wp2_with fail
                  refine (two_deselect HBv (by omega)).mono ?_
                  rintro e u1 ⟨rfl, B1⟩
                  go_wp2_with (go_at_call 9; refine (num_any _ _).mono ?_; rintro e w' ⟨rfl, rfl⟩)
                  refine (two_rdesel B1 (by omega)).mono ?_
                  rintro e u2 ⟨rfl, B2⟩
                  have S2 := sim_des HS (both_rok HBv)
                  rw [← HS.out.sel]
                  generalize desX s.sel = x
                  generalize desS s = s2 at B2 S2
                  generalize desR r = r2 at B2 S2
                  clear B1 HBv HB HS
                  go_wp2_with fail
                  go_meet
                  case rel => exact ⟨n, s2, r2, by omega, B2, S2⟩
              · have e1 : (dk == 1) = false := by simp [k1]
                by_cases k2 : dk = 2
                · as_aux_lemma =>
                    subst k2
                    go_wp2_with fail
                    go_loopw [13] (fun i wq => ∃ (t m : Nat) (s' : St) (r' : RSt), t ≤ xn ∧ t ≤ 400 ∧ m ≤ 900 * j + 2 * t ∧ i = .int .i64 t ∧ Hid (Both Q1 m bp b v wq s' r') ∧ Hid (Sim s' r')) (fun i _ => (xn - intOf i).toNat)
                    case atStart => exact ⟨0, n, s, r, by omega, by omega, by omega, rfl, HBv, HS⟩
                    case round =>
                      obtain ⟨t, m, s', r', ht1, ht2, hm, rfl, Bq, Sq⟩ := hrel
                      have cr := (HK.out _ _ _ _ Bq).2.1
                      clear HBv HS HB
                      by_cases hlt : t < xn ∧ t < 400
                      · obtain ⟨ha, hb⟩ := hlt
                        obtain ⟨x, Hx⟩ : ∃ x, Hid (dx.getD t 0 = x) := ⟨_, rfl⟩
                        obtain ⟨gx, ox, rfl⟩ := came_some (HCv.out _ _ _ _ Bq) (by omega)
                        have cx := came_cell (HCv.out _ _ _ _ Bq) t ha
                        rw [Hx.out] at cx
                        go_wp2_with fail
                        refine (two_clock x Bq (by omega)).mono ?_
                        rintro e u1 ⟨rfl, B1⟩
                        have cr1 := (HK.out _ _ _ _ B1).2.1
                        have cx1 := came_cell (HCv.out _ _ _ _ B1) t ha
                        rw [Hx.out] at cx1
                        clear cr cx
                        go_wp2_with fail
                        refine (two_rclock x B1 (by omega)).mono ?_
                        rintro e u2 ⟨rfl, B2⟩
                        obtain ⟨S2, hv⟩ := sim_clk Sq (both_rok Bq) x
                        rw [← hv]
                        generalize clkV s' x = y
                        generalize clkE x = z
                        generalize clkS s' x = s2 at B2 S2
                        generalize clkR r' x = r2 at B2 S2
                        clear cr1 cx1 B1 Bq Sq Hx hv HK HCv
                        go_wp2_with (go_at_call 9; refine (num_any _ _).mono ?_; rintro e w' ⟨rfl, rfl⟩)
                        go_roundw
                        case rel => exact ⟨t + 1, m + 1 + 1, s2, r2, by omega, by omega, by omega, by go_num, B2, S2⟩
                        case measure => simp [intOf]; omega
                      · rcases (show xn ≤ t ∨ (t < xn ∧ 400 ≤ t) by omega) with hge | ⟨ha, hge⟩
                        · have hd : decide ((t : Int) < xn) = false := decide_eq_false (by omega)
                          go_wp2_with fail
                          go_meet
                          case rel => exact ⟨m, s', r', by omega, Bq, Sq⟩
                        · have hd : decide ((t : Int) < 400) = false := decide_eq_false (by omega)
                          go_wp2_with fail
                          go_meet
                          case rel => exact ⟨m, s', r', by omega, Bq, Sq⟩
                · have e2 : (dk == 2) = false := by simp [k2]
                  by_cases k3 : dk = 3
                  · as_aux_lemma =>
                      subst k3
                      have cr := (HK.out _ _ _ _ HBv).2.1
                      go_wp2_with fail
                      refine (lend_any xa xn xc dx v (HCv.out _ _ _ _ HBv) hxb).mono ?_
                      rintro e u1 ⟨g, c, rfl, hg1, hg2, HL, HO, b1⟩
                      obtain ⟨Q2, HQ2⟩ : ∃ Q2 : Nat → Prop, Hid ((fun k => Q1 k ∨ (v.heap.size ≤ k ∧ k < u1.heap.size)) = Q2) := ⟨_, rfl⟩
                      have B1 : Hid (Both Q2 n bp b u1 u1 s r) := by
                        have h := both_more HBv b1
                        rw [HQ2.out] at h
                        exact h
                      have HQg : Hid (Q2 g) := by rw [← HQ2.out]; exact .inr ⟨hg1, hg2⟩
                      have HQ12 : Hid (∀ k, Q1 k → Q2 k) := fun k hk => by rw [← HQ2.out]; exact .inl hk
                      have HQlt : Hid (∀ k, Q1 k → k < v.heap.size) := HBv.out.inn
                      have HK2 : Hid (∀ (m : Nat) (s' : St) (r' : RSt) (u : World), Hid (Both Q2 m bp b u1 u s' r') → u.cell? ⟨dB, 1, none⟩ = some (.slice xa xn xc) ∧ Lent u g xn c dx ∧ Came u xa xn xc dx ∧ Owns v.heap.size u (.slice (some ⟨g, 0, none⟩) xn c) dx) := fun m s' r' u hb => by
                        have hB := both_back HBv b1 hb HQ12.out
                        exact ⟨(HK.out _ _ _ _ hB).2.1, lent_same HL.out (both_block hb HQg.out) hg2, HCv.out _ _ _ _ hB, owns_same HO.out (both_block hb HQg.out)⟩
                      have B1d : Hid (Both Q2 n bp b u1 u1.drew s r) := both_below B1 ((Below.refl _ _).drew)
                      have S0 : u1.drew.cell? ⟨dB, 1, none⟩ = some (.slice xa xn xc) := (HK2.out _ _ _ _ B1d).1
                      have hxl : dx.length * 8 ≤ 140737488355328 := by
                        have := HL.out.1
                        omega
                      obtain ⟨x, Hx⟩ : ∃ x, Hid (nxtX dx = x) := ⟨_, rfl⟩
                      have S2 := sim_nxt HS dx
                      obtain ⟨s2, Hs2⟩ : ∃ s2, Hid (nxtS s dx = s2) := ⟨_, rfl⟩
                      obtain ⟨r2, Hr2⟩ : ∃ r2, Hid (nxtR r dx = r2) := ⟨_, rfl⟩
                      rw [Hs2.out, Hr2.out] at S2
                      clear HB HS HK HCv HL HO cr
                      go_wp2_with fail
                      go_region_held3 (fun z => z.cell? ⟨dB, 1, none⟩ = some (.slice xa xn xc)) (first | exact S0 | exact (HK2.out _ _ _ _ B2).1 | exact (HK2.out _ _ _ _ B3).1 | exact (HK2.out _ _ _ _ B4).1) (first | (go_at_call 17; refine (two_next _ dx B1d (HK2.out _ _ _ _ B1d).2.1.reads hxl).mono ?_; rintro e u2 ⟨rfl, B2⟩; rw [Hx.out]; rw [Hs2.out] at B2) | (go_at_call 9; refine (num_any _ _).mono ?_; rintro e w' ⟨rfl, rfl⟩) | (go_at_call 18; refine (two_rnext _ dx B2 (HK2.out _ _ _ _ B2).2.2.1.reads hxl).mono ?_; rintro e u3 ⟨rfl, B3⟩; rw [Hx.out]; rw [Hr2.out] at B3) | (go_at_call 19; refine (kept_any xa g xn c xc dx _ (HK2.out _ _ _ _ B3).2.1 (HK2.out _ _ _ _ B3).2.2.1.reads hxb).mono ?_; rintro e u4 ⟨rfl, b4⟩; have B4 := both_below B3 b4))
                      all_goals go_wp2_with fail
                      all_goals refine (spoil_any v.heap.size _ dx _ (HK2.out _ _ _ _ B4).2.2.2 (by have := (HK2.out _ _ _ _ B4).2.1.1; omega)).mono ?_
                      all_goals rintro e u5 ⟨rfl, -, o5⟩
                      all_goals have B5 : Hid (Both Q1 n bp b v u5 s2 r2) := both_back HBv b1 (both_spoil B4 HQg.out (o5 g rfl)) (fun k hk => ⟨HQ12.out k hk, fun e => by have := HQlt.out k hk; omega⟩)
                      all_goals clear S0 B1 B1d HBv HK2
                      all_goals go_wp2_with fail
                      all_goals go_meet
                      all_goals exact ⟨n, s2, r2, by omega, B5, S2⟩
                  · as_aux_lemma =>
                      have e3 : (dk == 3) = false := by simp [k3]
                      have cm := (HK.out _ _ _ _ HBv).2.2
                      go_wp2_with fail
                      refine (two_loss dm HBv Hms.out).mono ?_
                      rintro e u1 ⟨rfl, B1⟩
                      have cm1 := (HK.out _ _ _ _ B1).2.2
                      go_wp2_with (go_at_call 9; refine (num_any _ _).mono ?_; rintro e w' ⟨rfl, rfl⟩)
                      refine (two_rloss dm B1 Hms.out).mono ?_
                      rintro e u2 ⟨rfl, B2⟩
                      have S2 : Hid (Sim (s.loss dm) (r.loss dm)) := sim_loss HS.out (both_rok HBv) dm
                      generalize s.loss dm = s2 at B2 S2
                      generalize r.loss dm = r2 at B2 S2
                      clear B1 HBv HB HS cm cm1
                      go_wp2_with fail
                      go_meet
                      case rel => exact ⟨n, s2, r2, by omega, B2, S2⟩

          case rest => as_aux_lemma =>
            obtain ⟨m, s', r', hm, B, S⟩ := hcut
            clear HBv HS HK HCv Hms hxb
            go_wp2_with fail
            refine (two_status B).mono ?_
            rintro e u1 ⟨rfl, B1, b1⟩
            go_wp2_with fail
            refine (two_rstatus B1 S).mono ?_
            rintro e u2 ⟨rfl, B2, b2⟩
            generalize ((s'.first : Nat) : Int) = p
            generalize ((s'.second : Nat) : Int) = q
            go_wp2_with fail
            refine (two_wipes B2).mono ?_
            rintro e u3 ⟨xa3, xc3, rfl, HO, B3, b3⟩
            obtain ⟨y, Hy⟩ : ∃ y, Hid (s'.A = y) := ⟨_, rfl⟩
            obtain ⟨W, HW⟩ : ∃ W, Hid (wipeL s' = W) := ⟨_, rfl⟩
            have hWl : W.length = 8 := by rw [← HW.out]; rfl
            obtain ⟨ry, gw, rw0, hgw, HRw⟩ := both_reads B3 S
            rw [Hy.out] at ry
            rw [HW.out] at HRw HO
            have Hfin : Hid (∀ u5 : World, Below u2.heap.size u2 u5 → Hid (Both (fun k => k < w.heap.size) m bp b w u5 s' r')) := fun u5 h5 => both_back HB HBb.out (both_below B2 h5) HQw.out
            have HCl : Hid (∀ nq : Nat, Calls Tryz.prog 27 #[.pointer (some ⟨bp, 0, none⟩)] (u3.drewN nq) fun e w' => e = .returned (.string y) ∧ w' = u3.drewN nq) := fun nq => by
              refine (two_cells (both_below B3 (below_drewN (Below.refl _ _) nq))).mono ?_
              rintro e w' ⟨rfl, rfl⟩
              rw [Hy.out]
              exact ⟨rfl, rfl⟩
            have HSm : Hid (∀ nq : Nat, Calls Tryz.prog 26 #[.slice xa3 8 xc3, .slice (some ⟨gw, 0, none⟩) 8 8] (u3.drewN nq) fun e w' => e = .returned (.bool true) ∧ ∃ c, w' = (u3.drewN nq).drewN c) := fun nq => by
              refine (same_q _ _ W W (u3.drewN nq) (HO.out.reads.below (below_drewN (Below.refl _ _) nq)) (HRw.out.below (below_drewN (Below.refl _ _) nq)) (by omega) (by omega)).mono ?_
              rintro e w' ⟨rfl, hc⟩
              rw [show decide (W = W) = true from by simp]
              exact ⟨rfl, hc⟩
            have Hm : Hid (m ≤ 900 * (j + 1)) := hm
            clear B B1 B3 B2 b1 b2 HB HRw HW Hy hm HBb HQw HQd HQ1 hn
            go_wp2_with fail
            by_cases h7 : (bits BinOp.and IntKind.i64 (j : Int) 7 == 7) = true
            · as_aux_lemma =>
                go_quiet (first | (go_at_call 26; exact Calls.quiet_of (HSm.out _)) | (go_at_call 27; exact Calls.quiet_of_same (HCl.out _)))
                go_wp2_with fail
                refine (spoil_any u2.heap.size _ W _ (HO.out.below (below_drewN (Below.refl _ _) _) (Nat.le_refl _)) (by omega)).mono ?_
                rintro e u5 ⟨rfl, b5, -⟩
                have B5 := Hfin.out u5 ((below_drewN b3 _).trans b5)
                clear Hfin HSm HCl HO ry rw0 b5 b3
                go_wp2_with fail
                go_roundw
                case rel => exact ⟨j + 1, m, s', r', by omega, by omega, Hm.out, by go_num, B5, S⟩
                case measure => simp [intOf]; omega
            · as_aux_lemma =>
                have h7f : (bits BinOp.and IntKind.i64 (j : Int) 7 == 7) = false := by simpa using h7
                clear h7
                go_quiet (first | (go_at_call 26; exact Calls.quiet_of (HSm.out _)) | (go_at_call 27; exact Calls.quiet_of_same (HCl.out _)))
                go_wp2_with fail
                refine (spoil_any u2.heap.size _ W _ (HO.out.below (below_drewN (Below.refl _ _) _) (Nat.le_refl _)) (by omega)).mono ?_
                rintro e u5 ⟨rfl, b5, -⟩
                have B5 := Hfin.out u5 ((below_drewN b3 _).trans b5)
                clear Hfin HSm HCl HO ry rw0 b5 b3
                go_wp2_with fail
                go_roundw
                case rel => exact ⟨j + 1, m, s', r', by omega, by omega, Hm.out, by go_num, B5, S⟩
                case measure => simp [intOf]; omega
        · rcases (show len1 ≤ j ∨ (j < len1 ∧ 60 ≤ j) by omega) with hge | ⟨hlt1, hge⟩
          · have hd : decide ((j : Int) < len1) = false := decide_eq_false (by omega)
            go_wp2_with fail
            go_meet
            case rel => exact ⟨n, s, r, HB, HS⟩
          · have hd : decide ((j : Int) < 60) = false := decide_eq_false (by omega)
            go_wp2_with fail
            go_meet
            case rel => exact ⟨n, s, r, HB, HS⟩

set_option maxRecDepth 100000 in
theorem lifted (os : Os) (started : os.Started) (H : Type) (enc : TypeId × Value → H) :
    ReturnsInHanded {} Tryz.checked os 3 .any (Rows.chipsSpec.pre6 enc Tryz.prog Tryz.f3 Rows.chipsRow.domain false) (Rows.chipsSpec.post enc Tryz.prog Tryz.f3 false true false false) := by
  refine returnsInHanded_of_change_sized (C := Tryz.checked) own started (by kernel_rfl) Tryz.func3
    (ChangeSpec.witness6 (enc := enc) (C := Tryz.checked) false ⟨#[], #[.string ByteArray.empty, .slice none 0 0], []⟩ 8 (by kernel_rfl) (by kernel_rfl) (by kernel_rfl) (by kernel_rfl)) ?_
  intro W base args ds gs before hval0 hW hcnd hsz0 _
  have hsz : (DataW.weightsEach Tryz.prog (Tryz.f3.params.toList ++ Rows.chipsSpec.plain.varTypes Tryz.prog) (ds ++ gs)).all (· ≤ reachBytes) = true := hsz0
  clear hsz0
  have hval : ∀ (j : Nat) t v, Tryz.f3.params[j]? = some t → args[j]? = some v → Value.okWide Tryz.prog W .any base t v := hval0
  have hW' := hW
  obtain ⟨p, q, hA0, hV, rfl, hfz, hnd⟩ := hW
  have hA : DataW.TrodAll enc Tryz.prog W 0 (fun _ => true) true Tryz.f3.params.toList args.toList ds p := hA0
  rw [Tryz.params3] at hA hval hsz
  obtain ⟨v0, vs0, d0, ds0, p0, q0, hargs, rfl, rfl, h0, r0⟩ := trodAll_cons hA
  obtain ⟨v1, vs1, d1, ds1, p1, q1, rfl, rfl, rfl, h1, r1⟩ := trodAll_cons r0
  obtain ⟨rfl, rfl, rfl⟩ := trodAll_nil r1
  obtain rfl : args = #[v0, v1] := by cases args; simp_all
  obtain ⟨rfl, rfl⟩ := trodVars_none hV
  obtain ⟨a0, rfl, rfl, rfl, w0⟩ := open_string Tryz.underlying9 (hval 0 9 v0 rfl rfl) h0
  obtain ⟨a1, len1, cap1, rfl⟩ := okWide_slice Tryz.underlying22 (hval 1 22 v1 rfl rfl)
  have k1 := h1
  have lt1 : ∀ x ∈ p1, x.block < W.heap.size := by obtain ⟨m, hm⟩ := k1; exact DataW.trod_lt m _ _ _ hm
  obtain ⟨z1, w1⟩ : ∃ L, Dos W a1 len1 cap1 L := by
    obtain ⟨fuel, hf⟩ := h1
    exact dos_open hf (fun y hy => of_decide_eq_true (List.all_eq_true.1 hsz y (DataW.weights_mem_each (j := 1) (t := 22) (d := d1) rfl rfl y hy)))
  clear hA0 hval0
  refine (walk a0 a1 len1 cap1 z1 W w0 w1).mono fun e W' ⟨he, bel⟩ => ?_
  subst he
  exact ⟨_, rfl, _, _, _, [], _, [], hW', trodAll_mk1 (shut_bool Tryz.underlying4 _), (trodAll_cons_mk (shut_string Tryz.underlying9 w0) (trodAll_cons_mk (Below.trod laidOut (by kernel_rfl) (of_decide_eq_true (by kernel_rfl)) k1 bel lt1) trodAll_mk0)), rfl, bel.frame _, fun h => by cases h⟩

theorem over : Rows.chipsRow.holds Tryz.pinned (OpenSpec.ofChange Rows.chipsSpec) :=
  OpenClaim.holds_of_wide 3 Tryz.f3 rfl rfl rfl rfl rfl rfl rfl ⟨rfl, rfl, rfl, rfl, rfl⟩ rfl rfl rfl rfl rfl (by kernel_rfl) Tryz.func3 (by kernel_rfl)
    (of_decide_eq_true (by kernel_rfl)) (by unfold Func.isWrapper; first | (rw [if_pos (by decide +kernel)]; kernel_rfl) | (rw [if_neg (by decide +kernel)]; exact ⟨rfl, rfl⟩))
    (fun os started H enc _ => lifted os started H enc)

theorem proved : Rows.ChipsSaid := over
#print axioms proved
end Go.Proofs.YthhchfldgkgfpaaGreat.chips
