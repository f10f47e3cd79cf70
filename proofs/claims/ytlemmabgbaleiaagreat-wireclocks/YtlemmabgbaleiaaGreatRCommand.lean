/-
  A command's byte has come: the document's chip, by a contract. Conditions: the chip lies in memory as told.
-/
import Derived.Test.YtlemmabgbaleiaaGreatRCalls
namespace Go.Proofs.YtlemmabgbaleiaaGreat
open Go.RowKit Plain
set_option linter.unusedVariables false

theorem ref_op (x : Nat) (w : World) : Calls Tryz.prog 46 #[.int .i64 (x : Int)] w fun e w' => e = .returned (.tuple #[.agg #[.int .i64 ((opOf x).byte : Int), .int .i64 ((opOf x).addr : Int), .bool (opOf x).mode, .int .i64 ((opOf x).dummy : Int), .int .i64 ((opOf x).data : Int), .bool (opOf x).inn], .int .i64 (opE x)]) ∧ Below w.heap.size w w' :=
  (ref_any x w).mono fun e w' ⟨h1, h2⟩ => by
    obtain ⟨e1, e2, e3, e4, e5, e6⟩ := opOf_is x
    rw [e1, e2, e3, e4, e5, e6] at h1
    exact ⟨h1, h2⟩
/-- The chip behind a byte, but for the part that begins. -/
def RSt.named (r : RSt) (x : Nat) (t : Bool) : RSt := { r with known := true, op := opOf x, taken := t }

def RSt.may1 (r : RSt) (x : Nat) : Bool := isOp (x : Int) && (r.quad || (decide (x ≠ 107) && decide (x ≠ 235)))
def RSt.stops (r : RSt) (x : Nat) : Bool := r.busy && decide (x ≠ 5) && decide (x ≠ 53) && decide (x ≠ 117)
def RSt.waits (r : RSt) (x : Nat) : Bool := r.sus && (decide (x = 1) || decide (x = 2) || decide (x = 32))
theorem taking_is (r : RSt) (x : Nat) : r.taking x = ((r.may1 x && !r.stops x) && !r.waits x) := by
  unfold RSt.taking RSt.may1 RSt.stops RSt.waits
  exact (Bool.and_assoc _ _ _).symm

set_option maxRecDepth 100000 in
set_option maxHeartbeats 2000000 in
theorem rcommand_any (b : Nat) (r : RSt) (wv dv iv : Value) (x : Nat) (w : World) (h : RAt w b r wv dv iv) (hx : x < 256) :
    Calls Tryz.prog 63 #[.pointer (some ⟨b, 0, none⟩), .int .i64 (x : Int)] w fun e w' => e = .returned (.tuple #[]) ∧ RAt w' b (r.command x) wv dv iv ∧ Only b w w' := by
  have f20 := Blk.frozen h 20
  have c20 : w.cell? ⟨b, 20, none⟩ = some (.bool r.known) := Blk.cell h 20 rfl
  have H1 : Hid (RAt (w.setCell ⟨b, 20, none⟩ (.bool true)) b { r with known := true } wv dv iv) := Blk.set h 20 _
  have O1 : Hid (Only b w (w.setCell ⟨b, 20, none⟩ (.bool true))) := (Only.refl b w).set 20 _
  obtain ⟨o, HO⟩ : ∃ o, Hid (opOf x = o) := ⟨_, rfl⟩
  obtain ⟨n, HE⟩ : ∃ n, Hid (opE x = n) := ⟨_, rfl⟩
  have HOF : Hid (∀ u : World, Calls Tryz.prog 46 #[.int .i64 (x : Int)] u fun e w' => e = .returned (.tuple #[.agg #[.int .i64 (o.byte : Int), .int .i64 (o.addr : Int), .bool o.mode, .int .i64 (o.dummy : Int), .int .i64 (o.data : Int), .bool o.inn], .int .i64 n]) ∧ Below u.heap.size u w') := fun u => by rw [← HO.out, ← HE.out]; exact ref_op x u
  clear h
  go_enter Tryz.func63, Tryz.ntmps63
  go_wp2_with fail
  refine (HOF.out _).mono ?_
  rintro e w2 ⟨rfl, b2⟩
  go_upto_region 2 with fail
  have h3 : RAt (w2.alloc (.cells #[.int .i64 (o.byte : Int), .int .i64 (o.addr : Int), .bool o.mode, .int .i64 (o.dummy : Int), .int .i64 (o.data : Int), .bool o.inn] 55)) b { r with known := true } wv dv iv := (Blk.below H1.out b2).alloc _
  have O3 : Hid (Only b w (w2.alloc (.cells #[.int .i64 (o.byte : Int), .int .i64 (o.addr : Int), .bool o.mode, .int .i64 (o.dummy : Int), .int .i64 (o.data : Int), .bool o.inn] 55))) := (O1.out.below b2).alloc _
  have g3 : Blk (w2.alloc (.cells #[.int .i64 (o.byte : Int), .int .i64 (o.addr : Int), .bool o.mode, .int .i64 (o.dummy : Int), .int .i64 (o.data : Int), .bool o.inn] 55)) w2.heap.size 55 [.int .i64 (o.byte : Int), .int .i64 (o.addr : Int), .bool o.mode, .int .i64 (o.dummy : Int), .int .i64 (o.data : Int), .bool o.inn] := Blk.new _ _ _ _ rfl
  generalize w2.alloc (.cells #[.int .i64 (o.byte : Int), .int .i64 (o.addr : Int), .bool o.mode, .int .i64 (o.dummy : Int), .int .i64 (o.data : Int), .bool o.inn] 55) = W at h3 O3 g3 ⊢
  generalize w2.heap.size = g at g3 ⊢
  have k0 : W.cell? ⟨g, 0, none⟩ = some (.int .i64 (o.byte : Int)) := Blk.cell g3 0 rfl
  have k1 : W.cell? ⟨g, 1, none⟩ = some (.int .i64 (o.addr : Int)) := Blk.cell g3 1 rfl
  have k2 : W.cell? ⟨g, 2, none⟩ = some (.bool o.mode) := Blk.cell g3 2 rfl
  have k3 : W.cell? ⟨g, 3, none⟩ = some (.int .i64 (o.dummy : Int)) := Blk.cell g3 3 rfl
  have k4 : W.cell? ⟨g, 4, none⟩ = some (.int .i64 (o.data : Int)) := Blk.cell g3 4 rfl
  have k5 : W.cell? ⟨g, 5, none⟩ = some (.bool o.inn) := Blk.cell g3 5 rfl
  have f13 := Blk.frozen h3 13
  have f14 := Blk.frozen h3 14
  have f15 := Blk.frozen h3 15
  have f16 := Blk.frozen h3 16
  have f17 := Blk.frozen h3 17
  have f18 := Blk.frozen h3 18
  have c13 : W.cell? ⟨b, 13, none⟩ = some (.int .i64 (r.op.byte : Int)) := Blk.cell h3 13 rfl
  have c14 : W.cell? ⟨b, 14, none⟩ = some (.int .i64 (r.op.addr : Int)) := Blk.cell h3 14 rfl
  have c15 : W.cell? ⟨b, 15, none⟩ = some (.bool r.op.mode) := Blk.cell h3 15 rfl
  have c16 : W.cell? ⟨b, 16, none⟩ = some (.int .i64 (r.op.dummy : Int)) := Blk.cell h3 16 rfl
  have c17 : W.cell? ⟨b, 17, none⟩ = some (.int .i64 (r.op.data : Int)) := Blk.cell h3 17 rfl
  have c18 : W.cell? ⟨b, 18, none⟩ = some (.bool r.op.inn) := Blk.cell h3 18 rfl
  have h4 : RAt ((((((W.setCell ⟨b, 13, none⟩ (.int .i64 (o.byte : Int))).setCell ⟨b, 14, none⟩ (.int .i64 (o.addr : Int))).setCell ⟨b, 15, none⟩ (.bool o.mode)).setCell ⟨b, 16, none⟩ (.int .i64 (o.dummy : Int))).setCell ⟨b, 17, none⟩ (.int .i64 (o.data : Int))).setCell ⟨b, 18, none⟩ (.bool o.inn)) b { r with known := true, op := o } wv dv iv := Blk.set (Blk.set (Blk.set (Blk.set (Blk.set (Blk.set h3 13 _) 14 _) 15 _) 16 _) 17 _) 18 _
  have O4 : Hid (Only b w ((((((W.setCell ⟨b, 13, none⟩ (.int .i64 (o.byte : Int))).setCell ⟨b, 14, none⟩ (.int .i64 (o.addr : Int))).setCell ⟨b, 15, none⟩ (.bool o.mode)).setCell ⟨b, 16, none⟩ (.int .i64 (o.dummy : Int))).setCell ⟨b, 17, none⟩ (.int .i64 (o.data : Int))).setCell ⟨b, 18, none⟩ (.bool o.inn))) := (((((O3.out.set 13 _).set 14 _).set 15 _).set 16 _).set 17 _).set 18 _
  have H3 : Hid (RAt W b { r with known := true } wv dv iv) := h3
  clear h3 g3 b2
  go_upto_region 3 with fail
  generalize ((((((W.setCell ⟨b, 13, none⟩ (.int .i64 (o.byte : Int))).setCell ⟨b, 14, none⟩ (.int .i64 (o.addr : Int))).setCell ⟨b, 15, none⟩ (.bool o.mode)).setCell ⟨b, 16, none⟩ (.int .i64 (o.dummy : Int))).setCell ⟨b, 17, none⟩ (.int .i64 (o.data : Int))).setCell ⟨b, 18, none⟩ (.bool o.inn)) = W4 at h4 O4 ⊢
  clear k0 k1 k2 k3 k4 k5 f13 f14 f15 f16 f17 f18 c13 c14 c15 c16 c17 c18 H3 O3 f20 c20 O1 H1 HOF
  have c2 : W4.cell? ⟨b, 2, none⟩ = some (.bool r.quad) := Blk.cell h4 2 rfl
  have f19 := Blk.frozen h4 19
  have c19 : W4.cell? ⟨b, 19, none⟩ = some (.bool r.taken) := Blk.cell h4 19 rfl
  have H5 : Hid (∀ t : Bool, RAt (W4.setCell ⟨b, 19, none⟩ (.bool t)) b { r with known := true, op := o, taken := t } wv dv iv ∧ Only b w (W4.setCell ⟨b, 19, none⟩ (.bool t))) := fun t => ⟨Blk.set h4 19 _, O4.out.set 19 _⟩
  clear h4 O4
  go_cut [4, 5] from 6 (fun v4 v5 wc => v4 = .pointer (some ⟨g, 0, none⟩) ∧ v5 = .int .i64 n ∧ RAt wc b { r with known := true, op := o, taken := r.may1 x } wv dv iv ∧ Only b w wc)
  case first =>
    by_cases hop : isOp (x : Int) = true
    · have hn0 : n = 0 := by rw [← HE.out]; unfold opE; rw [if_pos hop]
      subst hn0
      cases eq : r.quad
      · rw [eq] at c2
        by_cases e107 : x = 107
        · have HM : Hid (r.may1 x = false) := by unfold RSt.may1; rw [eq, e107]; rfl
          have d107 : ((x : Int) != 107) = false := by rw [e107]; rfl
          clear e107
          go_wp2_with fail
          go_meet
          case rel => rw [HM.out]; exact ⟨rfl, rfl, H5.out false⟩
        · have d107 : ((x : Int) != 107) = true := by simp; omega
          by_cases e235 : x = 235
          · have HM : Hid (r.may1 x = false) := by unfold RSt.may1; rw [eq, e235]; rfl
            have d235 : ((x : Int) != 235) = false := by rw [e235]; rfl
            clear e235
            go_wp2_with fail
            go_meet
            case rel => rw [HM.out]; exact ⟨rfl, rfl, H5.out false⟩
          · have HM : Hid (r.may1 x = true) := by unfold RSt.may1; rw [eq, hop, decide_eq_true e107, decide_eq_true e235]; rfl
            have d235 : ((x : Int) != 235) = true := by simp; omega
            go_wp2_with fail
            go_meet
            case rel => rw [HM.out]; exact ⟨rfl, rfl, H5.out true⟩
      · rw [eq] at c2
        have HM : Hid (r.may1 x = true) := by unfold RSt.may1; rw [eq, hop]; rfl
        go_wp2_with fail
        go_meet
        case rel => rw [HM.out]; exact ⟨rfl, rfl, H5.out true⟩
    · have hn0 : n = 400 := by rw [← HE.out]; unfold opE; rw [if_neg hop]
      subst hn0
      have HM : Hid (r.may1 x = false) := by unfold RSt.may1; rw [Bool.eq_false_iff.2 hop]; rfl
      go_wp2_with fail
      go_meet
      case rel => rw [HM.out]; exact ⟨rfl, rfl, H5.out false⟩
  case rest =>
    obtain ⟨rfl, rfl, h5, o5⟩ := hcut
    clear c2 f19 c19 H5
    have f19 := Blk.frozen h5 19
    have c19 : wc.cell? ⟨b, 19, none⟩ = some (.bool (r.may1 x)) := Blk.cell h5 19 rfl
    have H6a : Hid (RAt wc b { r with known := true, op := o, taken := r.may1 x } wv dv iv ∧ Only b w wc) := ⟨h5, o5⟩
    have H6b : Hid (RAt (wc.setCell ⟨b, 19, none⟩ (.bool false)) b { r with known := true, op := o, taken := false } wv dv iv ∧ Only b w (wc.setCell ⟨b, 19, none⟩ (.bool false))) := ⟨Blk.set h5 19 _, o5.set 19 _⟩
    clear h5 o5
    obtain ⟨WC, hWC⟩ : ∃ WC, WC = wc := ⟨_, rfl⟩
    rw [← hWC] at f19 c19 H6a H6b ⊢
    clear hWC
    go_upto_region 4 with fail
    go_cut [4, 5, 50] from 6 (fun v4 v5 v50 wd => v4 = .pointer (some ⟨g, 0, none⟩) ∧ v5 = .int .i64 n ∧ v50 = .bool (r.stops x) ∧ wd = WC)
    case first =>
      go_wp2_with fail
      refine (rbusy_any b _ wv dv iv _ H6a.out.1).mono ?_
      rintro e w' ⟨rfl, rfl⟩
      rw [show RSt.busy { r with known := true, op := o, taken := r.may1 x } = r.busy from rfl]
      cases eb : r.busy
      · have HM : Hid (r.stops x = false) := by rw [Hid]; unfold RSt.stops; rw [eb]; simp
        go_wp2_with fail
        go_meet
        case rel => rw [HM.out]; exact ⟨rfl, rfl, rfl, rfl⟩
      · by_cases e5 : x = 5
        · have HM : Hid (r.stops x = false) := by rw [Hid]; unfold RSt.stops; rw [e5]; simp
          have d5 : ((x : Int) != 5) = false := by rw [e5]; rfl
          clear e5
          go_wp2_with fail
          go_meet
          case rel => rw [HM.out]; exact ⟨rfl, rfl, rfl, rfl⟩
        · have d5 : ((x : Int) != 5) = true := by simp; omega
          by_cases e53 : x = 53
          · have HM : Hid (r.stops x = false) := by rw [Hid]; unfold RSt.stops; rw [e53]; simp
            have d53 : ((x : Int) != 53) = false := by rw [e53]; rfl
            clear e53
            go_wp2_with fail
            go_meet
            case rel => rw [HM.out]; exact ⟨rfl, rfl, rfl, rfl⟩
          · have d53 : ((x : Int) != 53) = true := by simp; omega
            by_cases e117 : x = 117
            · have HM : Hid (r.stops x = false) := by rw [Hid]; unfold RSt.stops; rw [e117]; simp
              have d117 : ((x : Int) != 117) = false := by rw [e117]; rfl
              clear e117
              go_wp2_with fail
              go_meet
              case rel => rw [HM.out]; exact ⟨rfl, rfl, rfl, rfl⟩
            · have d117 : ((x : Int) != 117) = true := by simp; omega
              have HM : Hid (r.stops x = true) := by rw [Hid]; unfold RSt.stops; rw [eb, decide_eq_true e5, decide_eq_true e53, decide_eq_true e117]; rfl
              go_wp2_with fail
              go_meet
              case rel => rw [HM.out]; exact ⟨rfl, rfl, rfl, rfl⟩
    case rest =>
      obtain ⟨rfl, rfl, rfl, rfl⟩ := hcut
      cases hst : r.stops x
      · have HS : Hid ((r.may1 x && !r.stops x) = r.may1 x) := by rw [Hid, hst]; simp
        have H6 := H6a
        clear H6a H6b
        have h6 := H6.out.1
        have o6 := H6.out.2
        go_upto_region 6 with fail
        obtain ⟨W6, HW6⟩ : ∃ W6, W6 = wc := ⟨_, rfl⟩
        rw [← HW6] at h6 o6 ⊢
        clear HW6 H6 c19 f19
        have c11 : W6.cell? ⟨b, 11, none⟩ = some (.bool r.sus) := Blk.cell h6 11 rfl
        have f19 := Blk.frozen h6 19
        have c19 : W6.cell? ⟨b, 19, none⟩ = some (.bool (r.may1 x)) := Blk.cell h6 19 rfl
        have H8a : Hid (RAt W6 b { r with known := true, op := o, taken := (r.may1 x) } wv dv iv ∧ Only b w W6) := ⟨h6, o6⟩
        have H8b : Hid (RAt (W6.setCell ⟨b, 19, none⟩ (.bool false)) b { r with known := true, op := o, taken := false } wv dv iv ∧ Only b w (W6.setCell ⟨b, 19, none⟩ (.bool false))) := ⟨Blk.set h6 19 _, o6.set 19 _⟩
        clear h6 o6
        go_cut [4, 5, 69] from 6 (fun v4 v5 v69 wd => v4 = .pointer (some ⟨g, 0, none⟩) ∧ v5 = .int .i64 n ∧ v69 = .bool (r.waits x) ∧ wd = W6)
        case first =>
          cases es : r.sus
          · rw [es] at c11
            have HM : Hid (r.waits x = false) := by rw [Hid]; unfold RSt.waits; rw [es]; simp
            go_wp2_with fail
            go_meet
            case rel => rw [HM.out]; exact ⟨rfl, rfl, rfl, rfl⟩
          · rw [es] at c11
            by_cases e1 : x = 1
            · have HM : Hid (r.waits x = true) := by rw [Hid]; unfold RSt.waits; rw [es, e1]; simp
              have d1 : ((x : Int) == 1) = true := by rw [e1]; rfl
              clear e1
              go_wp2_with fail
              go_meet
              case rel => rw [HM.out]; exact ⟨rfl, rfl, rfl, rfl⟩
            · have d1 : ((x : Int) == 1) = false := by simp; omega
              by_cases e2 : x = 2
              · have HM : Hid (r.waits x = true) := by rw [Hid]; unfold RSt.waits; rw [es, e2]; simp
                have d2 : ((x : Int) == 2) = true := by rw [e2]; rfl
                clear e2
                go_wp2_with fail
                go_meet
                case rel => rw [HM.out]; exact ⟨rfl, rfl, rfl, rfl⟩
              · have d2 : ((x : Int) == 2) = false := by simp; omega
                by_cases e32 : x = 32
                · have HM : Hid (r.waits x = true) := by rw [Hid]; unfold RSt.waits; rw [es, e32]; simp
                  have d32 : ((x : Int) == 32) = true := by rw [e32]; rfl
                  clear e32
                  go_wp2_with fail
                  go_meet
                  case rel => rw [HM.out]; exact ⟨rfl, rfl, rfl, rfl⟩
                · have d32 : ((x : Int) == 32) = false := by simp; omega
                  have HM : Hid (r.waits x = false) := by rw [Hid]; unfold RSt.waits; rw [es, decide_eq_false e1, decide_eq_false e2, decide_eq_false e32]; rfl
                  go_wp2_with fail
                  go_meet
                  case rel => rw [HM.out]; exact ⟨rfl, rfl, rfl, rfl⟩
        case rest =>
          obtain ⟨rfl, rfl, rfl, rfl⟩ := hcut
          clear c11
          cases ew : r.waits x
          · have HT : Hid (r.taking x = (r.may1 x)) := by rw [Hid, taking_is, ew, HS.out]; simp
            have H8 := H8a
            clear H8a H8b HS
            go_wp2_with fail
            refine (rgoOn_any b _ wv dv iv 0 _ H8.out.1 (by omega)).mono ?_
            rintro e w9 ⟨rfl, h9, o9⟩
            go_wp2
            first | go_end0 | refine bodyPost_ret (results_none rfl _ _ _) rfl ?_
            refine ⟨rfl, ?_, H8.out.2.trans o9⟩
            rw [show r.command x = RSt.goOn { r with known := true, op := o, taken := r.taking x } 0 by rw [← HO.out]; rfl, HT.out]
            exact h9
          · have HT : Hid (r.taking x = false) := by rw [Hid, taking_is, ew]; simp
            have H8 := H8b
            clear H8a H8b HS
            go_wp2_with fail
            refine (rgoOn_any b _ wv dv iv 0 _ H8.out.1 (by omega)).mono ?_
            rintro e w9 ⟨rfl, h9, o9⟩
            go_wp2
            first | go_end0 | refine bodyPost_ret (results_none rfl _ _ _) rfl ?_
            refine ⟨rfl, ?_, H8.out.2.trans o9⟩
            rw [show r.command x = RSt.goOn { r with known := true, op := o, taken := r.taking x } 0 by rw [← HO.out]; rfl, HT.out]
            exact h9
      · have HS : Hid ((r.may1 x && !r.stops x) = false) := by rw [Hid, hst]; simp
        have H6 := H6b
        clear H6a H6b
        have h6 := H6.out.1
        have o6 := H6.out.2
        go_upto_region 6 with fail
        generalize HW6 : wc.setCell ⟨b, 19, none⟩ (.bool false) = W6 at h6 o6 ⊢
        clear HW6 H6 c19 f19
        have c11 : W6.cell? ⟨b, 11, none⟩ = some (.bool r.sus) := Blk.cell h6 11 rfl
        have f19 := Blk.frozen h6 19
        have c19 : W6.cell? ⟨b, 19, none⟩ = some (.bool false) := Blk.cell h6 19 rfl
        have H8a : Hid (RAt W6 b { r with known := true, op := o, taken := false } wv dv iv ∧ Only b w W6) := ⟨h6, o6⟩
        have H8b : Hid (RAt (W6.setCell ⟨b, 19, none⟩ (.bool false)) b { r with known := true, op := o, taken := false } wv dv iv ∧ Only b w (W6.setCell ⟨b, 19, none⟩ (.bool false))) := ⟨Blk.set h6 19 _, o6.set 19 _⟩
        clear h6 o6
        go_cut [4, 5, 69] from 6 (fun v4 v5 v69 wd => v4 = .pointer (some ⟨g, 0, none⟩) ∧ v5 = .int .i64 n ∧ v69 = .bool (r.waits x) ∧ wd = W6)
        case first =>
          cases es : r.sus
          · rw [es] at c11
            have HM : Hid (r.waits x = false) := by rw [Hid]; unfold RSt.waits; rw [es]; simp
            go_wp2_with fail
            go_meet
            case rel => rw [HM.out]; exact ⟨rfl, rfl, rfl, rfl⟩
          · rw [es] at c11
            by_cases e1 : x = 1
            · have HM : Hid (r.waits x = true) := by rw [Hid]; unfold RSt.waits; rw [es, e1]; simp
              have d1 : ((x : Int) == 1) = true := by rw [e1]; rfl
              clear e1
              go_wp2_with fail
              go_meet
              case rel => rw [HM.out]; exact ⟨rfl, rfl, rfl, rfl⟩
            · have d1 : ((x : Int) == 1) = false := by simp; omega
              by_cases e2 : x = 2
              · have HM : Hid (r.waits x = true) := by rw [Hid]; unfold RSt.waits; rw [es, e2]; simp
                have d2 : ((x : Int) == 2) = true := by rw [e2]; rfl
                clear e2
                go_wp2_with fail
                go_meet
                case rel => rw [HM.out]; exact ⟨rfl, rfl, rfl, rfl⟩
              · have d2 : ((x : Int) == 2) = false := by simp; omega
                by_cases e32 : x = 32
                · have HM : Hid (r.waits x = true) := by rw [Hid]; unfold RSt.waits; rw [es, e32]; simp
                  have d32 : ((x : Int) == 32) = true := by rw [e32]; rfl
                  clear e32
                  go_wp2_with fail
                  go_meet
                  case rel => rw [HM.out]; exact ⟨rfl, rfl, rfl, rfl⟩
                · have d32 : ((x : Int) == 32) = false := by simp; omega
                  have HM : Hid (r.waits x = false) := by rw [Hid]; unfold RSt.waits; rw [es, decide_eq_false e1, decide_eq_false e2, decide_eq_false e32]; rfl
                  go_wp2_with fail
                  go_meet
                  case rel => rw [HM.out]; exact ⟨rfl, rfl, rfl, rfl⟩
        case rest =>
          obtain ⟨rfl, rfl, rfl, rfl⟩ := hcut
          clear c11
          cases ew : r.waits x
          · have HT : Hid (r.taking x = false) := by rw [Hid, taking_is, ew, HS.out]; simp
            have H8 := H8a
            clear H8a H8b HS
            go_wp2_with fail
            refine (rgoOn_any b _ wv dv iv 0 _ H8.out.1 (by omega)).mono ?_
            rintro e w9 ⟨rfl, h9, o9⟩
            go_wp2
            first | go_end0 | refine bodyPost_ret (results_none rfl _ _ _) rfl ?_
            refine ⟨rfl, ?_, H8.out.2.trans o9⟩
            rw [show r.command x = RSt.goOn { r with known := true, op := o, taken := r.taking x } 0 by rw [← HO.out]; rfl, HT.out]
            exact h9
          · have HT : Hid (r.taking x = false) := by rw [Hid, taking_is, ew]; simp
            have H8 := H8b
            clear H8a H8b HS
            go_wp2_with fail
            refine (rgoOn_any b _ wv dv iv 0 _ H8.out.1 (by omega)).mono ?_
            rintro e w9 ⟨rfl, h9, o9⟩
            go_wp2
            first | go_end0 | refine bodyPost_ret (results_none rfl _ _ _) rfl ?_
            refine ⟨rfl, ?_, H8.out.2.trans o9⟩
            rw [show r.command x = RSt.goOn { r with known := true, op := o, taken := r.taking x } 0 by rw [← HO.out]; rfl, HT.out]
            exact h9
end Go.Proofs.YtlemmabgbaleiaaGreat
