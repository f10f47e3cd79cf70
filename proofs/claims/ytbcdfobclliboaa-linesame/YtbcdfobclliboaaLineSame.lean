/-
  LineSame: a line that is kept anew with the same text turns nothing; what is not kept is not there. No conditions.
-/
import Derived.Test.YtbcdfobclliboaaRows
import Derived.Test.YtbcdfobclliboaaLend
import Derived.WalkKit
import Derived.ProofKit
import Derived.OpenShut
import Derived.ShutString
import Derived.ChangeOld
import Derived.Below
namespace Go.Proofs.Ytbcdfobclliboaa.lineSame
open Go.Proofs.Ytbcdfobclliboaa.Plain
open Go.ChangeShapes Go.WideShapes Go.ChangeAt Go.RowKit
open Go.ChangeMaps (open_string shut_string)
set_option linter.unusedVariables false

theorem own : ownKnob Try.prog.godebug = none := by kernel_rfl
theorem laidOut : laidOutB Try.prog = true := by kernel_rfl

set_option maxRecDepth 100000 in
set_option maxHeartbeats 2000000 in
theorem walk (a0 : Option Addr) (len0 cap0 : Nat) (z0 : List Int) (a1 : Int) (w : World) (w0 : Came w a0 len0 cap0 z0) (s0 : len0 * 8 ≤ 140737488351232) (w1 : (Lit.int .i64 a1).wf = true) :
    Calls Try.prog 7 #[.slice a0 len0 cap0, .int .i64 a1] w fun e w' => e = .returned (.bool true) ∧ Below w.heap.size w w' := by
  have HC : Hid (Came w a0 len0 cap0 z0) := w0
  have hl8 : len0 * 8 ≤ 140737488351232 := s0
  clear w0 s0
  go_enter Try.func7, Try.ntmps7
  go_wp2_with (go_at_call 20; refine (awake_any _).mono ?_; rintro e w1 ⟨rfl, b1⟩)
  have HB0 : Hid (Below w.heap.size w w1) := b1
  clear b1
  refine (new_any w1).mono ?_
  rintro e w2 ⟨q1, n1, p1, q2, n2, p2, rfl, hC, hb⟩
  have HB1 : Hid (Below w.heap.size w (w2.alloc (.cells #[.slice q1 n1 p1, .slice q2 n2 p2, .int .i64 0] 25))) := below_then (below_then HB0.out hb) (below_new _ _)
  have HV1 : Hid (Va w.heap.size (w2.alloc (.cells #[.slice q1 n1 p1, .slice q2 n2 p2, .int .i64 0] 25)) w2.heap.size q1 n1 p1 q2 n2 p2 0 S2.none.A S2.none.T S2.none.x) := Va.new (hC.below (Below.refl _ _) HB0.out.size)
  have hcb : w.heap.size ≤ w2.heap.size := (below_then HB0.out hb).size
  clear hC hb HB0
  go_upto_region 4 with fail
  generalize w2.alloc (.cells #[.slice q1 n1 p1, .slice q2 n2 p2, .int .i64 0] 25) = W1 at HB1 HV1 ⊢
  obtain ⟨cb, hcb2⟩ : ∃ c, c = w2.heap.size := ⟨_, rfl⟩
  rw [← hcb2] at HV1 hcb ⊢
  have HCB : Hid (w.heap.size ≤ cb) := hcb
  clear hcb2 hcb
  go_wp2_with fail
  go_loopw [6, 7, 8, 9, 10, 11, 12] (fun l i _ _ _ _ _ wr => ∃ (n : Nat) (L : Int) (s : S2) (q1 : Option Addr) (n1 p1 : Nat) (q2 : Option Addr) (n2 p2 : Nat) (y : Int), n ≤ 10 ∧ n ≤ len0 ∧ i = .int .i64 n ∧ l = .int .i64 L ∧ Hid s.ok ∧ Hid (Va w.heap.size wr cb q1 n1 p1 q2 n2 p2 y s.A s.T s.x) ∧ Hid (Below w.heap.size w wr)) (fun _ i _ _ _ _ _ _ => 10 - (intOf i).toNat)
  case atStart => exact ⟨0, -1, S2.none, q1, n1, p1, q2, n2, p2, 0, by omega, by omega, rfl, rfl, S2.none_ok, HV1, HB1⟩
  case round =>
    obtain ⟨n, L, s, aq1, an1, ap1, aq2, an2, ap2, ay, hn10, hnl, rfl, rfl, HS, HV, HB⟩ := hrel
    clear HV1 HB1
    by_cases hlt : n < len0 ∧ n < 10
    · obtain ⟨hlt1, hlt2⟩ := hlt
      obtain ⟨g, o, hg, hc⟩ := HC.out.cells (by omega)
      subst hg
      obtain ⟨z, hz⟩ : ∃ z, z = z0.getD n 0 := ⟨_, rfl⟩
      have cz : wr.cell? ⟨g, o + n, none⟩ = some (.int .i64 z) := by
        rw [hz, ← hc n hlt1]
        exact HB.out.cell (by exact cell_lt (hc n hlt1))
      obtain ⟨k, hk, hu⟩ := umod z
      obtain ⟨X, hX⟩ : ∃ X : Int, X = 16 * (k : Int) := ⟨_, rfl⟩
      obtain ⟨G1, G2, G3, G4, GA, GR⟩ := line_nums k hk X hX
      have HX : Hid (X = 16 * (k : Int)) := hX
      have HK : Hid (k < 256) := hk
      have hn0 : (0 : Int) ≤ n := by omega
      have hni : (n : Int) < len0 := by omega
      have hn9 : (n : Int) < 10 := by omega
      have HSK : Hid ((s.keep k (UInt8.ofNat k)).ok) := S2.keep_ok HS.out k hk _
      clear hz hc hX hk
      go_upto_region 9 with fail
      rw [hu]
      clear cz hu
      obtain ⟨W, hW⟩ : ∃ W, W = wr := ⟨_, rfl⟩
      subst hW
      go_cut [9, 10] from 38 to 73 (fun v f z => Hid (f = .int .i64 0 ∧ KeptAt W (s.keep k (UInt8.ofNat k)).A (s.keep k (UInt8.ofNat k)).T (s.keep k (UInt8.ofNat k)).x v z))
      case first => as_aux_lemma =>
        have g1 := G1.out
        have g2 := G2.out
        have g3 := G3.out
        have K0 : Below W.heap.size W W.drew := (Below.refl W.heap.size W).drew
        have K1 : Below W.heap.size W (W.alloc (.cells #[.slice none 0 0, .slice none 0 0, .int .i64 0] 25)).drew := (below_new W (.cells #[.slice none 0 0, .slice none 0 0, .int .i64 0] 25)).drew
        have HZ1 : Blk (W.alloc (.cells #[.slice none 0 0, .slice none 0 0, .int .i64 0] 25)).drew W.heap.size 25 [.slice none 0 0, .slice none 0 0, .int .i64 0] := (Blk.new W 25 [.slice none 0 0, .slice none 0 0, .int .i64 0] _ rfl).drew
        have S0 := (HV.out.below K0 (Nat.le_refl _)).cells
        have S1 := (HV.out.below K1 (Nat.le_refl _)).cells
        go_region_held3 (fun z => z.cell? ⟨cb, 0, none⟩ = some (.slice aq1 an1 ap1) ∧ z.cell? ⟨cb, 1, none⟩ = some (.slice aq2 an2 ap2) ∧ z.cell? ⟨cb, 2, none⟩ = some (.int .i64 ay)) (first | with_reducible exact S0 | with_reducible exact S1 | with_reducible exact s1 | with_reducible exact s2 | with_reducible exact s3 | with_reducible exact s4 | with_reducible exact s5 | with_reducible exact s6)
          (first | (go_at_call 21; refine (text_num (k : Int) (UInt8.ofNat k) G4.out _).mono ?_; rintro e w2 ⟨R, rfl, HR, b2⟩; (first | (with_reducible have BW2 := below_then K0 b2) | ((with_reducible have BW2 := below_then K1 b2); (have Z2 := HZ1.below b2))); (have s1 := (HV.out.below BW2 (Nat.le_refl _)).cells); (have s2 := (HV.out.below (below_then BW2 (below_new w2 (.cells #[.slice none 0 0, .slice none 0 0, .int .i64 0] 25))) (Nat.le_refl _)).cells)) | (go_at_call 9; refine (keep_yes _ _ _ _ X R _ (by first | with_reducible exact (HV.out.below BW2 (Nat.le_refl _)).own.reads | with_reducible exact (HV.out.below (below_then BW2 (below_new w2 (.cells #[.slice none 0 0, .slice none 0 0, .int .i64 0] 25))) (Nat.le_refl _)).own.reads) s.fit HR.out.2 (S2.may HS.out) GA.out).mono ?_; rintro e w3 ⟨r1, m1, t1, r2, m2, t2, y3, rfl, hC3, b3⟩; (first | ((with_reducible have BW3 := below_then BW2 b3); (try have Z3 := Z2.below b3); (have HC3 := hC3.below (Below.refl _ _) BW2.size)) | ((with_reducible have BW3 := below_then (below_then BW2 (below_new w2 (.cells #[.slice none 0 0, .slice none 0 0, .int .i64 0] 25))) b3); (have Z3 := (Blk.new w2 25 [.slice none 0 0, .slice none 0 0, .int .i64 0] _ rfl).below b3); (have HC3 := hC3.below (Below.refl _ _) (below_then BW2 (below_new w2 (.cells #[.slice none 0 0, .slice none 0 0, .int .i64 0] 25))).size))); (try (have z0 := Z3.cell 0 rfl)); (try (have z1 := Z3.cell 1 rfl)); (try (have z2 := Z3.cell 2 rfl)); (try (have f0 := Z3.frozen 0)); (try (have f1 := Z3.frozen 1)); (try (have f2 := Z3.frozen 2)); (have V3 := HV.out.below BW3 (Nat.le_refl _)); (have s3 := V3.cells); (have s4 := (HV.out.below (below_then BW3 (below_new w3 (.cells #[.slice none 0 0, .slice none 0 0, .int .i64 0] 25))) (Nat.le_refl _)).cells); (have s5 := (HV.out.below (below_then BW3 (below_new w3 (.cells #[.slice r1 m1 t1, .slice r2 m2 t2, .int .i64 y3] 25))) (Nat.le_refl _)).cells); (try (have s6 := (((V3.other Z3 (by have := HV.out.blk.lt; first | omega | (have := BW2.size; omega)) 0 (.slice r1 m1 t1)).other (Z3.set 0 _) (by have := HV.out.blk.lt; first | omega | (have := BW2.size; omega)) 1 (.slice r2 m2 t2)).other ((Z3.set 0 _).set 1 _) (by have := HV.out.blk.lt; first | omega | (have := BW2.size; omega)) 2 (.int .i64 y3)).cells))))
        all_goals go_wp2_with fail
        all_goals go_meet
        all_goals (have HC4 := HC3; rw [HX.out, HR.out.1, (S2.kept s k (UInt8.ofNat k)).1, (S2.kept s k (UInt8.ofNat k)).2.1, (S2.kept s k (UInt8.ofNat k)).2.2] at HC4)
        all_goals refine ⟨rfl, ?_⟩
        all_goals first
          | exact ⟨_, _, _, _, _, _, _, _, rfl, BW3.size, Va.new HC4, below_then BW3 (below_new _ _)⟩
          | exact ⟨_, _, _, _, _, _, _, _, rfl, BW2.size, Va.put Z3 rfl HC4, ((BW3.setCell (by exact BW2.size) _).setCell (by exact BW2.size) _).setCell (by exact BW2.size) _⟩
          | exact ⟨_, _, _, _, _, _, _, _, rfl, Nat.le_refl _, Va.put Z3 rfl HC4, ((BW3.setCell (Nat.le_refl _) _).setCell (Nat.le_refl _) _).setCell (Nat.le_refl _) _⟩
      case rest =>
        obtain ⟨hf, db, bq1, bn1, bp1, bq2, bn2, bp2, b_y, hv, hdb, hD, hb⟩ := hcut.out
        subst hf hv
        have HAG : Hid ((s.keep k (UInt8.ofNat k)).keep k (UInt8.ofNat k) = s.keep k (UInt8.ofNat k)) := S2.again s k _
        obtain ⟨t, ht⟩ : ∃ t, t = s.keep k (UInt8.ofNat k) := ⟨_, rfl⟩
        rw [← ht] at HAG HSK hD
        clear ht
        have HD : Hid (Va w.heap.size wc db bq1 bn1 bp1 bq2 bn2 bp2 b_y t.A t.T t.x) := hD.below (Below.refl _ _) HB.out.size
        have HV2 : Hid (Blk wc cb 25 [.slice aq1 an1 ap1, .slice aq2 an2 ap2, .int .i64 ay]) := HV.out.blk.below hb
        have HNE : Hid (cb ≠ db) := by
          have := HV.out.blk.lt
          rw [Hid]; omega
        have HB2 : Hid (Below w.heap.size w wc) := below_then HB.out hb
        clear hcut hdb hD hb HV HB HS
        clear W
        obtain ⟨W, hW⟩ : ∃ W, W = wc := ⟨_, rfl⟩
        subst hW
        go_upto_region 10 with fail
        go_cut [11, 12] from 48 to 73 (fun v f z => Hid (f = .int .i64 0 ∧ KeptAt W t.A t.T t.x v z))
        case first => as_aux_lemma =>
          have g1 := G1.out
          have g2 := G2.out
          have g3 := G3.out
          have K0 : Below W.heap.size W W.drew := (Below.refl W.heap.size W).drew
          have K1 : Below W.heap.size W (W.alloc (.cells #[.slice none 0 0, .slice none 0 0, .int .i64 0] 25)).drew := (below_new W (.cells #[.slice none 0 0, .slice none 0 0, .int .i64 0] 25)).drew
          have HZ1 : Blk (W.alloc (.cells #[.slice none 0 0, .slice none 0 0, .int .i64 0] 25)).drew W.heap.size 25 [.slice none 0 0, .slice none 0 0, .int .i64 0] := (Blk.new W 25 [.slice none 0 0, .slice none 0 0, .int .i64 0] _ rfl).drew
          have S0 := (HD.out.below K0 (Nat.le_refl _)).cells
          have S1 := (HD.out.below K1 (Nat.le_refl _)).cells
          go_region_held3 (fun z => z.cell? ⟨db, 0, none⟩ = some (.slice bq1 bn1 bp1) ∧ z.cell? ⟨db, 1, none⟩ = some (.slice bq2 bn2 bp2) ∧ z.cell? ⟨db, 2, none⟩ = some (.int .i64 b_y)) (first | with_reducible exact S0 | with_reducible exact S1 | with_reducible exact s1 | with_reducible exact s2 | with_reducible exact s3 | with_reducible exact s4 | with_reducible exact s5 | with_reducible exact s6)
            (first | (go_at_call 21; refine (text_num (k : Int) (UInt8.ofNat k) G4.out _).mono ?_; rintro e w2 ⟨R, rfl, HR, b2⟩; (first | (with_reducible have BW2 := below_then K0 b2) | ((with_reducible have BW2 := below_then K1 b2); (have Z2 := HZ1.below b2))); (have s1 := (HD.out.below BW2 (Nat.le_refl _)).cells); (have s2 := (HD.out.below (below_then BW2 (below_new w2 (.cells #[.slice none 0 0, .slice none 0 0, .int .i64 0] 25))) (Nat.le_refl _)).cells)) | (go_at_call 9; refine (keep_yes _ _ _ _ X R _ (by first | with_reducible exact (HD.out.below BW2 (Nat.le_refl _)).own.reads | with_reducible exact (HD.out.below (below_then BW2 (below_new w2 (.cells #[.slice none 0 0, .slice none 0 0, .int .i64 0] 25))) (Nat.le_refl _)).own.reads) t.fit HR.out.2 (S2.may HSK.out) GA.out).mono ?_; rintro e w3 ⟨r1, m1, t1, r2, m2, t2, y3, rfl, hC3, b3⟩; (first | ((with_reducible have BW3 := below_then BW2 b3); (try have Z3 := Z2.below b3); (have HC3 := hC3.below (Below.refl _ _) BW2.size)) | ((with_reducible have BW3 := below_then (below_then BW2 (below_new w2 (.cells #[.slice none 0 0, .slice none 0 0, .int .i64 0] 25))) b3); (have Z3 := (Blk.new w2 25 [.slice none 0 0, .slice none 0 0, .int .i64 0] _ rfl).below b3); (have HC3 := hC3.below (Below.refl _ _) (below_then BW2 (below_new w2 (.cells #[.slice none 0 0, .slice none 0 0, .int .i64 0] 25))).size))); (try (have z0 := Z3.cell 0 rfl)); (try (have z1 := Z3.cell 1 rfl)); (try (have z2 := Z3.cell 2 rfl)); (try (have f0 := Z3.frozen 0)); (try (have f1 := Z3.frozen 1)); (try (have f2 := Z3.frozen 2)); (have V3 := HD.out.below BW3 (Nat.le_refl _)); (have s3 := V3.cells); (have s4 := (HD.out.below (below_then BW3 (below_new w3 (.cells #[.slice none 0 0, .slice none 0 0, .int .i64 0] 25))) (Nat.le_refl _)).cells); (have s5 := (HD.out.below (below_then BW3 (below_new w3 (.cells #[.slice r1 m1 t1, .slice r2 m2 t2, .int .i64 y3] 25))) (Nat.le_refl _)).cells); (try (have s6 := (((V3.other Z3 (by have := HD.out.blk.lt; first | omega | (have := BW2.size; omega)) 0 (.slice r1 m1 t1)).other (Z3.set 0 _) (by have := HD.out.blk.lt; first | omega | (have := BW2.size; omega)) 1 (.slice r2 m2 t2)).other ((Z3.set 0 _).set 1 _) (by have := HD.out.blk.lt; first | omega | (have := BW2.size; omega)) 2 (.int .i64 y3)).cells))))
          all_goals go_wp2_with fail
          all_goals go_meet
          all_goals (have HC4 := HC3; rw [HX.out, HR.out.1, (S2.kept t k (UInt8.ofNat k)).1, (S2.kept t k (UInt8.ofNat k)).2.1, (S2.kept t k (UInt8.ofNat k)).2.2, HAG.out] at HC4)
          all_goals refine ⟨rfl, ?_⟩
          all_goals first
            | exact ⟨_, _, _, _, _, _, _, _, rfl, BW3.size, Va.new HC4, below_then BW3 (below_new _ _)⟩
            | exact ⟨_, _, _, _, _, _, _, _, rfl, BW2.size, Va.put Z3 rfl HC4, ((BW3.setCell (by exact BW2.size) _).setCell (by exact BW2.size) _).setCell (by exact BW2.size) _⟩
            | exact ⟨_, _, _, _, _, _, _, _, rfl, Nat.le_refl _, Va.put Z3 rfl HC4, ((BW3.setCell (Nat.le_refl _) _).setCell (Nat.le_refl _) _).setCell (Nat.le_refl _) _⟩
        case rest =>
          obtain ⟨hf, eb, cq1, cn1, cp1, cq2, cn2, cp2, cy, hv, heb, hE, hb⟩ := hcut.out
          subst hf hv
          have HE : Hid (Va W.heap.size wc eb cq1 cn1 cp1 cq2 cn2 cp2 cy t.A t.T t.x) := hE
          have HD2 : Hid (Va w.heap.size wc db bq1 bn1 bp1 bq2 bn2 bp2 b_y t.A t.T t.x) := HD.out.below hb (Nat.le_refl _)
          have HV3 : Hid (Blk wc cb 25 [.slice aq1 an1 ap1, .slice aq2 an2 ap2, .int .i64 ay]) := HV2.out.below hb
          have HB3 : Hid (Below w.heap.size w wc) := below_then HB2.out hb
          clear hcut hE heb hb HD HV2 HB2 HAG
          obtain ⟨d0, d1, d2⟩ := HD2.out.cells
          obtain ⟨e0, e1, e2⟩ := HE.out.cells
          go_wp2_with (go_at_call 14; refine (num_any _ _).mono ?_; rintro e w' ⟨rfl, rfl⟩)
          refine (same_cache _ _ _ _ _ _ _ _ _ HD2.out.own.reads HE.out.own.reads t.fit t.fit).mono ?_
          rintro e w5 ⟨rfl, b5⟩
          rw [show decide (t.A = t.A ∧ t.T = t.T ∧ t.x = t.x) = true by simp]
          have HD3 : Hid (Va w.heap.size w5 db bq1 bn1 bp1 bq2 bn2 bp2 b_y t.A t.T t.x) := HD2.out.below b5 (Nat.le_refl _)
          have HV4 : Hid (Blk w5 cb 25 [.slice aq1 an1 ap1, .slice aq2 an2 ap2, .int .i64 ay]) := HV3.out.below b5
          have HB4 : Hid (Below w.heap.size w w5) := below_then HB3.out b5
          clear HE HD2 HV3 HB3 b5 d0 d1 d2 e0 e1 e2
          have HF : Hid (Va w.heap.size (((w5.setCell ⟨cb, 0, none⟩ (.slice bq1 bn1 bp1)).setCell ⟨cb, 1, none⟩ (.slice bq2 bn2 bp2)).setCell ⟨cb, 2, none⟩ (.int .i64 b_y)) cb bq1 bn1 bp1 bq2 bn2 bp2 b_y t.A t.T t.x) := Va.put HV4.out rfl HD3.out.own
          have HB5 : Hid (Below w.heap.size w (((w5.setCell ⟨cb, 0, none⟩ (.slice bq1 bn1 bp1)).setCell ⟨cb, 1, none⟩ (.slice bq2 bn2 bp2)).setCell ⟨cb, 2, none⟩ (.int .i64 b_y))) := ((HB4.out.setCell (by exact HCB.out) _).setCell (by exact HCB.out) _).setCell (by exact HCB.out) _
          obtain ⟨d0, d1, d2⟩ := HD3.out.cells
          have v0 := HV4.out.cell 0 rfl
          have v1 := HV4.out.cell 1 rfl
          have v2 := HV4.out.cell 2 rfl
          have f0 := HV4.out.frozen 0
          have f1 := HV4.out.frozen 1
          have f2 := HV4.out.frozen 2
          clear HD3 HV4 HB4
          go_wp2_with fail
          go_roundw
          case rel => exact ⟨n + 1, (k : Int), t, _, _, _, _, _, _, _, by omega, by omega, by go_num, rfl, HSK, HF, HB5⟩
          case measure => simp [intOf]; omega
    · have HEnd : Hid (¬ (n < len0 ∧ n < 10)) := hlt
      obtain ⟨j, hj, ej⟩ : ∃ j : Nat, j < 256 ∧ bits .and .i64 a1 255 = (j : Int) := ⟨(a1 % 256).toNat, by omega, by rw [and_255]; omega⟩
      obtain ⟨X, hX⟩ : ∃ X : Int, X = 16 * (j : Int) := ⟨_, rfl⟩
      obtain ⟨-, G2, -, -, -, GR⟩ := line_nums j hj X hX
      have HX : Hid (X = 16 * (j : Int)) := hX
      obtain ⟨b0, hb0⟩ : ∃ b, b = isK s.l0 j := ⟨_, rfl⟩
      obtain ⟨b1, hb1⟩ : ∃ b, b = isK s.l1 j := ⟨_, rfl⟩
      obtain ⟨y0, hy0⟩ : ∃ y, y = atO s.l0 := ⟨_, rfl⟩
      obtain ⟨y1, hy1⟩ : ∃ y, y = atO s.l1 := ⟨_, rfl⟩
      have hF : ∃ V, fB s.A s.T s.x X = (b0 || b1) ∧ fV s.A s.T s.x X = V := by
        refine ⟨_, ?_, rfl⟩
        have h := S2.found HS.out j 0 (by omega)
        rw [show 16 * (j : Int) + ((0 : Nat) : Int) = X by omega] at h
        rcases h with ⟨h1, -, h3, h4⟩ | ⟨c, h1, h2, -⟩
        · rw [h1, hb0, hb1, h3, h4]; rfl
        · rw [h2, hb0, hb1]
          rcases h1 with h1 | h1
          · rw [h1]; simp [isK]
          · rw [h1]; simp [isK]
      obtain ⟨V, hF1, hF2⟩ := hF
      have HF1 : Hid (fB s.A s.T s.x X = (b0 || b1)) := hF1
      have HF2 : Hid (fV s.A s.T s.x X = V) := hF2
      have he0 : Hid ((y0 == X) = b0) := by
        rw [Hid, hb0, hy0, hX, Bool.eq_iff_iff, isK_at]; simp
      have he1 : Hid ((y1 == X) = b1) := by
        rw [Hid, hb1, hy1, hX, Bool.eq_iff_iff, isK_at]; simp
      obtain ⟨ga, oa, c1, gb, ob, c2, heq, hca, hcb⟩ := HV.out.own.reads.two rfl rfl
      simp at heq
      obtain ⟨⟨rfl, rfl, rfl⟩, ⟨rfl, rfl, rfl⟩, rfl⟩ := heq
      have HY0 : Hid (wr.cell? ⟨ga, oa, none⟩ = some (.int .i64 y0)) := by
        have h := hca 0 (by omega)
        rw [Nat.add_zero] at h
        rw [hy0]; exact h
      have HY1 : Hid (wr.cell? ⟨ga, oa + 1, none⟩ = some (.int .i64 y1)) := by
        have h := hca 1 (by omega)
        rw [hy1]; exact h
      clear hX hb0 hb1 hy0 hy1 hF1 hF2 hca hcb hj hlt
      obtain ⟨d0, d1, d2⟩ := HV.out.cells
      have g2 := G2.out
      rcases (show ¬ n < len0 ∨ (n < len0 ∧ ¬ n < 10) by have := HEnd.out; omega) with h1 | ⟨h1, h2⟩
      · go_upto_region 16 with fail
        clear ej
        go_wp2_with fail
        (try rw [g2])
        refine (find_any _ _ _ _ X _ HV.out.own.reads s.fit GR.out).mono ?_
        rintro e w5 ⟨rfl, b5⟩
        rw [HF1.out, HF2.out]
        obtain ⟨m0, m1, m2⟩ := (HV.out.below b5 (Nat.le_refl _)).cells
        have HYA : w5.cell? ⟨ga, oa, none⟩ = some (.int .i64 y0) := (b5.cell (by exact cell_lt HY0.out)).trans HY0.out
        have HYB : w5.cell? ⟨ga, oa + 1, none⟩ = some (.int .i64 y1) := (b5.cell (by exact cell_lt HY1.out)).trans HY1.out
        have HB5 : Hid (Below w.heap.size w w5) := below_then HB.out b5
        have p0 := he0.out
        have p1 := he1.out
        clear b5 HV HB d0 d1 d2
        go_wp2_with fail
        rcases (show (b0 = true ∨ b0 = false) by cases b0 <;> simp) with rfl | rfl
        · by_cases hL : L < 0
          · refine wp_loop_rounds 3 ?_
            rw [rounds_succ]
            go_wp2_with fail
            rw [rounds_succ]
            go_wp2_with fail
            rw [rounds_succ]
            go_wp2_with fail
            go_ret
            exact ⟨rfl, HB5.out⟩
          · refine wp_loop_rounds 3 ?_
            rw [rounds_succ]
            go_wp2_with fail
            rw [rounds_succ]
            go_wp2_with fail
            rw [rounds_succ]
            go_wp2_with fail
            go_ret
            exact ⟨rfl, HB5.out⟩
        · rcases (show (b1 = true ∨ b1 = false) by cases b1 <;> simp) with rfl | rfl
          · by_cases hL : L < 0
            · refine wp_loop_rounds 3 ?_
              rw [rounds_succ]
              go_wp2_with fail
              rw [rounds_succ]
              go_wp2_with fail
              rw [rounds_succ]
              go_wp2_with fail
              go_ret
              exact ⟨rfl, HB5.out⟩
            · refine wp_loop_rounds 3 ?_
              rw [rounds_succ]
              go_wp2_with fail
              rw [rounds_succ]
              go_wp2_with fail
              rw [rounds_succ]
              go_wp2_with fail
              go_ret
              exact ⟨rfl, HB5.out⟩
          · by_cases hL : L < 0
            · refine wp_loop_rounds 3 ?_
              rw [rounds_succ]
              go_wp2_with fail
              rw [rounds_succ]
              go_wp2_with fail
              rw [rounds_succ]
              go_wp2_with fail
              go_ret
              exact ⟨rfl, HB5.out⟩
            · refine wp_loop_rounds 3 ?_
              rw [rounds_succ]
              go_wp2_with fail
              rw [rounds_succ]
              go_wp2_with fail
              rw [rounds_succ]
              go_wp2_with fail
              go_ret
              exact ⟨rfl, HB5.out⟩
      · go_upto_region 16 with fail
        clear ej
        go_wp2_with fail
        (try rw [g2])
        refine (find_any _ _ _ _ X _ HV.out.own.reads s.fit GR.out).mono ?_
        rintro e w5 ⟨rfl, b5⟩
        rw [HF1.out, HF2.out]
        obtain ⟨m0, m1, m2⟩ := (HV.out.below b5 (Nat.le_refl _)).cells
        have HYA : w5.cell? ⟨ga, oa, none⟩ = some (.int .i64 y0) := (b5.cell (by exact cell_lt HY0.out)).trans HY0.out
        have HYB : w5.cell? ⟨ga, oa + 1, none⟩ = some (.int .i64 y1) := (b5.cell (by exact cell_lt HY1.out)).trans HY1.out
        have HB5 : Hid (Below w.heap.size w w5) := below_then HB.out b5
        have p0 := he0.out
        have p1 := he1.out
        clear b5 HV HB d0 d1 d2
        go_wp2_with fail
        rcases (show (b0 = true ∨ b0 = false) by cases b0 <;> simp) with rfl | rfl
        · by_cases hL : L < 0
          · refine wp_loop_rounds 3 ?_
            rw [rounds_succ]
            go_wp2_with fail
            rw [rounds_succ]
            go_wp2_with fail
            rw [rounds_succ]
            go_wp2_with fail
            go_ret
            exact ⟨rfl, HB5.out⟩
          · refine wp_loop_rounds 3 ?_
            rw [rounds_succ]
            go_wp2_with fail
            rw [rounds_succ]
            go_wp2_with fail
            rw [rounds_succ]
            go_wp2_with fail
            go_ret
            exact ⟨rfl, HB5.out⟩
        · rcases (show (b1 = true ∨ b1 = false) by cases b1 <;> simp) with rfl | rfl
          · by_cases hL : L < 0
            · refine wp_loop_rounds 3 ?_
              rw [rounds_succ]
              go_wp2_with fail
              rw [rounds_succ]
              go_wp2_with fail
              rw [rounds_succ]
              go_wp2_with fail
              go_ret
              exact ⟨rfl, HB5.out⟩
            · refine wp_loop_rounds 3 ?_
              rw [rounds_succ]
              go_wp2_with fail
              rw [rounds_succ]
              go_wp2_with fail
              rw [rounds_succ]
              go_wp2_with fail
              go_ret
              exact ⟨rfl, HB5.out⟩
          · by_cases hL : L < 0
            · refine wp_loop_rounds 3 ?_
              rw [rounds_succ]
              go_wp2_with fail
              rw [rounds_succ]
              go_wp2_with fail
              rw [rounds_succ]
              go_wp2_with fail
              go_ret
              exact ⟨rfl, HB5.out⟩
            · refine wp_loop_rounds 3 ?_
              rw [rounds_succ]
              go_wp2_with fail
              rw [rounds_succ]
              go_wp2_with fail
              rw [rounds_succ]
              go_wp2_with fail
              go_ret
              exact ⟨rfl, HB5.out⟩

set_option maxRecDepth 100000 in
theorem lifted (os : Os) (started : os.Started) (H : Type) (enc : TypeId × Value → H) :
    ReturnsInHanded {} Try.checked os 7 .any (Rows.lineSameSpec.pre6 enc Try.prog Try.f7 Rows.lineSameRow.domain false) (Rows.lineSameSpec.post enc Try.prog Try.f7 false true false false) := by
  refine returnsInHanded_of_change_sized (C := Try.checked) own started (by kernel_rfl) Try.func7
    (ChangeSpec.witness6 (enc := enc) (C := Try.checked) false ⟨#[], #[.slice none 0 0, .int .i64 0], []⟩ 8 (by kernel_rfl) (by kernel_rfl) (by kernel_rfl) (by kernel_rfl)) ?_
  intro W base args ds gs before hval0 hW hcnd hsz0 _
  have hsz : (DataW.weightsEach Try.prog (Try.f7.params.toList ++ Rows.lineSameSpec.plain.varTypes Try.prog) (ds ++ gs)).all (· ≤ reachBytes) = true := hsz0
  clear hsz0
  have hval : ∀ (j : Nat) t v, Try.f7.params[j]? = some t → args[j]? = some v → Value.okWide Try.prog W .any base t v := hval0
  have hW' := hW
  obtain ⟨p, q, hA0, hV, rfl, hfz, hnd⟩ := hW
  have hA : DataW.TrodAll enc Try.prog W 0 (fun _ => true) true Try.f7.params.toList args.toList ds p := hA0
  rw [Try.params7] at hA hval hsz
  obtain ⟨v0, vs0, d0, ds0, p0, q0, hargs, rfl, rfl, h0, r0⟩ := trodAll_cons hA
  obtain ⟨v1, vs1, d1, ds1, p1, q1, rfl, rfl, rfl, h1, r1⟩ := trodAll_cons r0
  obtain ⟨rfl, rfl, rfl⟩ := trodAll_nil r1
  obtain rfl : args = #[v0, v1] := by cases args; simp_all
  obtain ⟨rfl, rfl⟩ := trodVars_none hV
  obtain ⟨a0, len0, cap0, rfl⟩ := okWide_slice Try.underlying22 (hval 0 22 v0 rfl rfl)
  have k0 := h0
  have lt0 : ∀ x ∈ p0, x.block < W.heap.size := by obtain ⟨m, hm⟩ := k0; exact DataW.trod_lt m _ _ _ hm
  obtain ⟨z0, w0, s0⟩ : ∃ zs, Came W a0 len0 cap0 zs ∧ len0 * 8 ≤ 140737488351232 := by
    obtain ⟨fuel, hf⟩ := h0
    rcases open_ints Try.underlying22 Try.underlying3 (by kernel_rfl) hf with ⟨hcs, _⟩ | ⟨x, l, c, zs, hcs, _, hl, hm, hz, hx, hcell, hwz⟩
    · simp [Value.cells] at hcs
      obtain ⟨rfl, rfl, rfl⟩ := hcs
      exact ⟨[], ⟨rfl, .inl ⟨rfl, rfl, rfl⟩⟩, by omega⟩
    · simp [Value.cells] at hcs
      obtain ⟨rfl, rfl, rfl⟩ := hcs
      simp only [Prod.mk.injEq] at hx
      obtain ⟨rfl, -⟩ := hx
      have hzl : zs.length = cap0 := by simpa using hz
      have hreach := sized_slice hsz (j := 0) (t := 22) (e := 3) rfl rfl Try.underlying22
      rw [show Try.prog.bytesOf 3 = 8 from by kernel_rfl] at hreach
      simp only [lits, List.length_map, List.length_take, List.length_drop, reachBytes] at hreach
      exact ⟨zs.take len0, came_of hl hzl hcell, by omega⟩
  obtain ⟨a1, rfl, rfl, rfl, w1⟩ := open_int Try.underlying3 (hval 1 3 v1 rfl rfl) h1
  clear hA0 hval0
  refine (walk a0 len0 cap0 z0 a1 W w0 s0 w1).mono fun e W' ⟨he, bel⟩ => ?_
  subst he
  exact ⟨_, rfl, _, _, _, [], _, [], hW', trodAll_mk1 (shut_bool Try.underlying4 _), (trodAll_cons_mk (Below.trod laidOut (by kernel_rfl) (of_decide_eq_true (by kernel_rfl)) k0 bel lt0) (trodAll_cons_mk (shut_int Try.underlying3 w1) trodAll_mk0)), rfl, bel.frame _, fun h => by cases h⟩

theorem over : Rows.lineSameRow.holds Try.pinned (OpenSpec.ofChange Rows.lineSameSpec) :=
  OpenClaim.holds_of_wide 7 Try.f7 rfl rfl rfl rfl rfl rfl rfl ⟨rfl, rfl, rfl, rfl, rfl⟩ rfl rfl rfl rfl rfl (by kernel_rfl) Try.func7 (by kernel_rfl)
    (of_decide_eq_true (by kernel_rfl)) (by unfold Func.isWrapper; first | (rw [if_pos (by decide +kernel)]; kernel_rfl) | (rw [if_neg (by decide +kernel)]; exact ⟨rfl, rfl⟩))
    (fun os started H enc _ => lifted os started H enc)

theorem proved : Rows.LineSameSaid := over
#print axioms proved
end Go.Proofs.Ytbcdfobclliboaa.lineSame
