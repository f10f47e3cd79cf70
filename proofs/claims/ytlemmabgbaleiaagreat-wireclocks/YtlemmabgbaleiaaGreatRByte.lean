/-
  Status of the document's chip; what is under way is done; the byte that comes: each by a contract. Conditions: the chip lies in memory as told. The byte that comes: the document's chip, by a contract. Conditions: the chip lies in memory as told, and is one that may be.
-/
import Derived.Test.YtlemmabgbaleiaaGreatRCalls
import Derived.Test.YtlemmabgbaleiaaGreatRefSfdp
/-! Status of the document's chip; what is under way is done; the byte that comes: each by a contract. Conditions: the chip lies in memory as told. -/
section
namespace Go.Proofs.YtlemmabgbaleiaaGreat
open Go.RowKit Plain
set_option linter.unusedVariables false

theorem RAt.drewN {w : World} {b : Nat} {r : RSt} {wv dv iv : Value} (h : RAt w b r wv dv iv) (n : Nat) : RAt (w.drewN n) b r wv dv iv := Blk.below h (below_drewN (Below.refl _ _) n)
theorem rfst_is (r : RSt) : fst r.busy r.en r.prot = (r.first : Int) := by
  unfold fst RSt.first one bitIf
  cases r.busy <;> cases r.en <;> cases r.prot <;> rfl
theorem rsnd_is (r : RSt) : snd r.quad r.sus = (r.second : Int) := by
  unfold snd RSt.second one bitIf
  cases r.quad <;> cases r.sus <;> rfl

set_option maxRecDepth 100000 in
set_option maxHeartbeats 1000000 in
theorem rstatus_any (b : Nat) (r : RSt) (wv dv iv : Value) (w : World) (h : RAt w b r wv dv iv) :
    Calls Tryz.prog 40 #[.pointer (some ⟨b, 0, none⟩)] w fun e w' => e = .returned (.tuple #[.int .i64 (r.first : Int), .int .i64 (r.second : Int)]) ∧ ∃ m, w' = w.drewN m := by
  have c1 : w.cell? ⟨b, 1, none⟩ = some (.bool r.prot) := Blk.cell h 1 rfl
  have c2 : w.cell? ⟨b, 2, none⟩ = some (.bool r.quad) := Blk.cell h 2 rfl
  have c5 : w.cell? ⟨b, 5, none⟩ = some (.bool r.en) := Blk.cell h 5 rfl
  have c11 : w.cell? ⟨b, 11, none⟩ = some (.bool r.sus) := Blk.cell h 11 rfl
  have HB : Hid (∀ n, Calls Tryz.prog 71 #[.pointer (some ⟨b, 0, none⟩)] (w.drewN n) fun e w' => e = .returned (.bool r.busy) ∧ w' = w.drewN n) := fun n => (rbusy_any b r wv dv iv _ (h.drewN n)).mono fun e w' ⟨h1, h2⟩ => ⟨h1, h2.symm⟩
  have HF : Hid (∀ (x y z : Bool) (v : World), Calls Tryz.prog 70 #[.bool x, .bool y, .bool z] v fun e w' => e = .returned (.int .i64 (fst x y z)) ∧ w' = v) := fun x y z v => (ref_first x y z v).mono fun e w' ⟨h1, h2⟩ => ⟨h1, h2.symm⟩
  have HS : Hid (∀ (x y : Bool) (v : World), Calls Tryz.prog 72 #[.bool x, .bool y] v fun e w' => e = .returned (.int .i64 (snd x y)) ∧ w' = v) := fun x y v => (ref_second x y v).mono fun e w' ⟨h1, h2⟩ => ⟨h1, h2.symm⟩
  rw [← rfst_is, ← rsnd_is]
  clear h
  go_enter Tryz.func40, Tryz.ntmps40
  go_wp2_with fail
  go_quiet (first | (go_at_call 71; exact Calls.quiet_of_same (HB.out _)) | (go_at_call 70; exact Calls.quiet_of_same (HF.out _ _ _ _)) | (go_at_call 72; exact Calls.quiet_of_same (HS.out _ _ _)))
  go_wp2
  go_ret2
  exact ⟨rfl, _, rfl⟩

set_option maxRecDepth 100000 in
set_option maxHeartbeats 1000000 in
theorem rdone_any (b : Nat) (r : RSt) (wv dv iv : Value) (w : World) (h : RAt w b r wv dv iv) (hA : r.A.size = 4096) (hw : r.wat < 4096) (hd : r.kind = 2 → r.wat + r.wdata.size ≤ 4096) (hk : r.kind = 2 ∨ r.kind = 32) :
    Calls Tryz.prog 104 #[.pointer (some ⟨b, 0, none⟩)] w fun e w' => e = .returned (.tuple #[]) ∧ RAt w' b r.done wv dv iv ∧ Only b w w' := by
  have c0 : w.cell? ⟨b, 0, none⟩ = some (.string r.A) := Blk.cell h 0 rfl
  have c8 : w.cell? ⟨b, 8, none⟩ = some (.int .i64 (r.wat : Int)) := Blk.cell h 8 rfl
  have c9 : w.cell? ⟨b, 9, none⟩ = some (.string r.wdata) := Blk.cell h 9 rfl
  have c7 : w.cell? ⟨b, 7, none⟩ = some (.int .i64 (r.kind : Int)) := Blk.cell h 7 rfl
  have H : Hid (RAt w b r wv dv iv) := h
  have fin : Hid (∀ (v : World) (R : ByteArray), Below w.heap.size w v → R = r.done.A → RAt (((v.setCell ⟨b, 0, none⟩ (.string R)).setCell ⟨b, 7, none⟩ (.int .i64 0)).setCell ⟨b, 5, none⟩ (.bool false)) b r.done wv dv iv ∧ Only b w (((v.setCell ⟨b, 0, none⟩ (.string R)).setCell ⟨b, 7, none⟩ (.int .i64 0)).setCell ⟨b, 5, none⟩ (.bool false))) := fun v R hb hR => by
    subst hR
    exact ⟨Blk.set (Blk.set (Blk.set (Blk.below h hb) 0 _) 7 _) 5 _, (((Only.of_below hb).set 0 _).set 7 _).set 5 _⟩
  have facts : Hid (∀ v : World, Below w.heap.size w v → v.cell? ⟨b, 0, none⟩ = some (.string r.A) ∧ v.frozen? ⟨b, 0, none⟩ = false ∧ v.cell? ⟨b, 7, none⟩ = some (.int .i64 (r.kind : Int)) ∧ v.frozen? ⟨b, 7, none⟩ = false ∧ v.cell? ⟨b, 5, none⟩ = some (.bool r.en) ∧ v.frozen? ⟨b, 5, none⟩ = false) := fun v hb =>
    ⟨Blk.cell (Blk.below h hb) 0 rfl, Blk.frozen (Blk.below h hb) 0, Blk.cell (Blk.below h hb) 7 rfl, Blk.frozen (Blk.below h hb) 7, Blk.cell (Blk.below h hb) 5 rfl, Blk.frozen (Blk.below h hb) 5⟩
  clear h
  rcases hk with hk | hk
  · have HP : Hid (∀ u : World, Calls Tryz.prog 115 #[.string r.A, .int .i64 (r.wat : Int), .string r.wdata] u fun e w' => ∃ R, e = .returned (.tuple #[.string R, .int .i64 0]) ∧ Hid (R = prog r.A r.wat r.wdata ⟨#[255]⟩) ∧ Below u.heap.size u w') := fun u => refProgram_yes r.A r.wat r.wdata u hA (hd hk)
    have HE : Hid (r.done.A = prog r.A r.wat r.wdata ⟨#[255]⟩) := if_pos hk
    have HK : Hid (r.kind = 2) := hk
    rw [hk] at c7
    clear hk hd
    go_enter Tryz.func104, Tryz.ntmps104
    go_wp2_with fail
    go_region_with (go_at_call 115; refine (HP.out _).mono ?_; rintro e v ⟨R, rfl, HR, bv⟩)
    all_goals
      have bw : Below w.heap.size w v := below_then ((Below.refl _ _).drew) bv
      obtain ⟨q0, z0, q7, z7, q5, z5⟩ := facts.out v bw
      go_wp2
      first | go_end0 | refine bodyPost_ret (results_none rfl _ _ _) rfl ?_
      exact ⟨rfl, fin.out v R bw (by rw [HR.out, HE.out])⟩
  · obtain ⟨z, hz⟩ : ∃ z : Int, z = ((r.wat / 512 : Nat) : Int) := ⟨_, rfl⟩
    have z1 : (r.wat : Int).tdiv 512 = z := hz.symm
    have z2 : (r.wat : Int) / 512 = z := by rw [hz]; omega
    have z3 : IntKind.i64.wrap z = z := IntWalk.i64_in _ (by rw [hz]; omega)
    have HP : Hid (∀ u : World, Calls Tryz.prog 116 #[.string r.A, .int .i64 z] u fun e w' => ∃ R, e = .returned (.tuple #[.string R, .int .i64 0]) ∧ Hid (R = erase r.A (r.wat / 512) ⟨#[255]⟩) ∧ Below u.heap.size u w') := fun u => by rw [hz]; exact refErase_yes r.A (r.wat / 512) u hA (by omega)
    have HE : Hid (r.done.A = erase r.A (r.wat / 512) ⟨#[255]⟩) := if_neg (by rw [hk]; decide)
    rw [hk] at c7
    clear hk hd hz
    go_enter Tryz.func104, Tryz.ntmps104
    go_wp2_with fail
    go_region_with (go_at_call 116; refine (HP.out _).mono ?_; rintro e v ⟨R, rfl, HR, bv⟩)
    all_goals
      have bw : Below w.heap.size w v := below_then ((Below.refl _ _).drew) bv
      obtain ⟨q0, z0, q7, z7, q5, z5⟩ := facts.out v bw
      go_wp2
      first | go_end0 | refine bodyPost_ret (results_none rfl _ _ _) rfl ?_
      exact ⟨rfl, fin.out v R bw (by rw [HR.out, HE.out])⟩
end Go.Proofs.YtlemmabgbaleiaaGreat
end

/-! The byte that comes: the document's chip, by a contract. Conditions: the chip lies in memory as told, and is one that may be. -/
section
namespace Go.Proofs.YtlemmabgbaleiaaGreat
open Go.RowKit Plain
set_option linter.unusedVariables false

set_option maxRecDepth 100000 in
set_option maxHeartbeats 2000000 in
theorem rbyteOut_any (n b : Nat) (r : RSt) (wv dv iv : Value) (w : World) (h : RAt w b r wv dv iv) (hA : r.A.size = 4096) (ha : r.adr < 4096) (hs : r.sent ≤ n) (hn : n < 4611686018427387903) (hb : r.op.byte < 256) :
    Calls Tryz.prog 128 #[.pointer (some ⟨b, 0, none⟩)] w fun e w' => e = .returned (.int .i64 (r.byteOut : Int)) ∧ Below w.heap.size w w' := by
  have HST : Hid (∀ u : World, RAt u b r wv dv iv → Calls Tryz.prog 40 #[.pointer (some ⟨b, 0, none⟩)] u fun e w' => e = .returned (.tuple #[.int .i64 (r.first : Int), .int .i64 (r.second : Int)]) ∧ ∃ m, w' = u.drewN m) := fun u hu => rstatus_any b r wv dv iv u hu
  have H : Hid (RAt w b r wv dv iv) := h
  clear h
  go_enter Tryz.func128, Tryz.ntmps128
  go_wp2_with fail
  refine (HST.out _ H.out).mono ?_
  rintro e w1 ⟨rfl, m, hm⟩
  have b1 : Below w.heap.size w w1 := by rw [hm]; exact below_drewN (Below.refl _ _) m
  have h1 := Blk.below H.out b1
  have c0 : w1.cell? ⟨b, 0, none⟩ = some (.string r.A) := Blk.cell h1 0 rfl
  have c13 : w1.cell? ⟨b, 13, none⟩ = some (.int .i64 (r.op.byte : Int)) := Blk.cell h1 13 rfl
  have c24 : w1.cell? ⟨b, 24, none⟩ = some (.int .i64 (r.adr : Int)) := Blk.cell h1 24 rfl
  have c30 : w1.cell? ⟨b, 30, none⟩ = some (.int .i64 (r.sent : Int)) := Blk.cell h1 30 rfl
  have hbl : b < w1.heap.size := Blk.lt h1
  have H1 : Hid (RAt w1 b r wv dv iv) := h1
  clear hm HST H h1
  by_cases e159 : r.op.byte = 159
  · have HE : Hid (r.byteOut = (ub idT (r.sent % 3)).toNat) := if_pos e159
    rw [e159] at c13
    obtain ⟨q, hq⟩ : ∃ q : Nat, r.sent % 3 = q := ⟨_, rfl⟩
    have hq3 : q < 3 := by rw [← hq]; exact Nat.mod_lt _ (by decide)
    have hqi : (r.sent : Int) % 3 = (q : Int) := by omega
    have HQ : Hid (r.sent % 3 = q) := hq
    clear hq e159 c0 c24
    have c30' : (w1.alloc (.cells #[.int .i64 239, .int .i64 64, .int .i64 12] 3)).cell? ⟨b, 30, none⟩ = some (.int .i64 (r.sent : Int)) := Blk.cell (Blk.alloc H1.out _) 30 rfl
    rcases (show q = 0 ∨ q = 1 ∨ q = 2 by omega) with rfl | rfl | rfl
    all_goals
      go_wp2
      go_ret
      refine ⟨ret_int ?_, below_then b1 (below_new _ _)⟩
      rw [HE.out, HQ.out]
      rfl
  · have d159 : ((r.op.byte : Int) == 159) = false := beq_eq_false_iff_ne.2 (by omega)
    by_cases e5 : r.op.byte = 5
    · have HE : Hid (r.byteOut = r.first) := by rw [Hid]; unfold RSt.byteOut; rw [if_neg e159, if_pos e5]
      rw [e5] at c13
      clear e5 e159 d159
      go_wp2
      go_ret
      exact ⟨ret_int (by rw [HE.out]), b1⟩
    · have d5 : ((r.op.byte : Int) == 5) = false := beq_eq_false_iff_ne.2 (by omega)
      by_cases e53 : r.op.byte = 53
      · have HE : Hid (r.byteOut = r.second) := by rw [Hid]; unfold RSt.byteOut; rw [if_neg e159, if_neg e5, if_pos e53]
        rw [e53] at c13
        clear e53 e5 e159 d159 d5
        go_wp2
        go_ret
        exact ⟨ret_int (by rw [HE.out]), b1⟩
      · have d53 : ((r.op.byte : Int) == 53) = false := beq_eq_false_iff_ne.2 (by omega)
        by_cases e90 : r.op.byte = 90
        · have HE : Hid (r.byteOut = (ub sfdpT ((r.adr + r.sent) % 32)).toNat) := by rw [Hid]; unfold RSt.byteOut; rw [if_neg e159, if_neg e5, if_neg e53, if_pos e90]
          have E90 : Hid (r.op.byte = 90) := e90
          rw [e90] at c13
          clear e90 e53 e5 e159 d159 d5 d53
          have hget := get_ub sfdpT
          obtain ⟨T, hT⟩ : ∃ T, T = sfdpT := ⟨_, rfl⟩
          have HP : Hid (∀ u : World, Calls Tryz.prog 135 #[.int .i64 4096, .int .i64 512, .int .i64 32] u fun e w' => e = .returned (.tuple #[.string T, .int .i64 0]) ∧ Below u.heap.size u w') := fun u => by rw [hT]; exact refPut_any u
          obtain ⟨K, hK⟩ : ∃ K : Nat, (r.adr + r.sent) % 32 = K := ⟨_, rfl⟩
          have hlm : K < T.size := by rw [← hK, hT]; exact Nat.mod_lt _ (by decide)
          have hKi : ((r.adr : Int) + (r.sent : Int)) % 32 = (K : Int) := by omega
          rw [← hT] at hget
          have HK : Hid (r.byteOut = (ub T K).toNat) := by rw [Hid, HE.out, hK, hT]
          clear hT HE hK c0 c24 c30 c13
          have c13 : w1.cell? ⟨b, 13, none⟩ = some (.int .i64 90) := by rw [Blk.cell H1.out 13 rfl, E90.out]; rfl
          go_wp2_with fail
          refine (HP.out _).mono ?_
          rintro e w2 ⟨rfl, b2⟩
          have h2 := Blk.below H1.out b2
          have c24 : w2.cell? ⟨b, 24, none⟩ = some (.int .i64 (r.adr : Int)) := Blk.cell h2 24 rfl
          have c30 : w2.cell? ⟨b, 30, none⟩ = some (.int .i64 (r.sent : Int)) := Blk.cell h2 30 rfl
          clear h2 c13
          go_wp2_with fail
          go_region
          go_wp2
          go_ret
          refine ⟨ret_int ?_, (below_then b1 b2).drew⟩
          rw [HK.out]
          exact IntWalk.wrap64_in _ (by have := (ub T K).toNat_lt; omega)
        · have HE : Hid (r.byteOut = (ub r.A ((r.adr + r.sent) % 4096)).toNat) := by rw [Hid]; unfold RSt.byteOut; rw [if_neg e159, if_neg e5, if_neg e53, if_neg e90]
          have d90 : ((r.op.byte : Int) == 90) = false := beq_eq_false_iff_ne.2 (by omega)
          have hget := get_ub r.A
          obtain ⟨K, hK⟩ : ∃ K : Nat, (r.adr + r.sent) % 4096 = K := ⟨_, rfl⟩
          have hlm : K < r.A.size := by rw [← hK, hA]; exact Nat.mod_lt _ (by decide)
          have hKi : ((r.adr : Int) + (r.sent : Int)) % 4096 = (K : Int) := by omega
          have HK : Hid (r.byteOut = (ub r.A K).toNat) := by rw [Hid, HE.out, hK]
          clear e90 e53 e5 e159 HE hK
          go_wp2_with fail
          go_region
          go_wp2
          go_ret
          refine ⟨ret_int ?_, b1.drew⟩
          rw [HK.out]
          exact IntWalk.wrap64_in _ (by have := (ub r.A K).toNat_lt; omega)
end Go.Proofs.YtlemmabgbaleiaaGreat
end
