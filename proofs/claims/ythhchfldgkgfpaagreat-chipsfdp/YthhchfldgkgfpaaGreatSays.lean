/-
  Clocks in a row, what came of them as bytes, a new chip over a text: each by a contract. Conditions: the chip lies in memory as told; the rows are short.
-/
import Derived.Test.YthhchfldgkgfpaaGreatSay
namespace Go.Proofs.YthhchfldgkgfpaaGreat
open Go.RowKit Plain
set_option linter.unusedVariables false

/-- Clocks in a row. -/
def St.run (s : St) : List Nat → St × List Nat
  | [] => (s, [])
  | x :: r => (((s.clock x).1.run r).1, (s.clock x).2 :: ((s.clock x).1.run r).2)
theorem run_append (s : St) (L M : List Nat) : s.run (L ++ M) = (((s.run L).1.run M).1, (s.run L).2 ++ ((s.run L).1.run M).2) := by
  induction L generalizing s with
  | nil => rfl
  | cons x r ih =>
    show (((s.clock x).1.run (r ++ M)).1, (s.clock x).2 :: ((s.clock x).1.run (r ++ M)).2) = _
    rw [ih]
    rfl
theorem run_length (s : St) (L : List Nat) : (s.run L).2.length = L.length := by
  induction L generalizing s with
  | nil => rfl
  | cons x r ih => show (((s.clock x).1.run r).2.length + 1) = _; rw [ih]; rfl
theorem run_one (s : St) (x : Nat) : s.run [x] = ((s.clock x).1, [(s.clock x).2]) := rfl
theorem clock_sel (s : St) (x : Nat) : (s.clock x).1.sel = s.sel := by
  have h2 : (s.countDown.heard x).1.sel = s.countDown.sel := by
    generalize s.countDown = t
    unfold St.heard
    split
    · rfl
    · split
      · show t.begun.sel = t.sel
        unfold St.begun
        split
        · show t.looked.sel = t.sel
          unfold St.looked; split <;> rfl
        · rfl
      · show (t.hear x).sel = t.sel
        unfold St.hear
        split
        · unfold St.complete
          repeat' split
          all_goals rfl
        · rfl
  exact h2.trans (countDown_sel s)
theorem run_sel (s : St) (L : List Nat) : (s.run L).1.sel = s.sel := by
  induction L generalizing s with
  | nil => rfl
  | cons x r ih => exact (ih _).trans (clock_sel s x)
theorem select_sel (s : St) : s.select.sel = true := by unfold St.select; split <;> rfl
/-- What is said, selected ahead, deselected behind. -/
def St.say (s : St) (X : List Nat) : St := (s.select.run X).1.deselect
def St.hears (s : St) (X : List Nat) : List Nat := (s.select.run X).2
theorem begin_sel (s : St) (er : Bool) (a : Nat) (d : ByteArray) : (s.begin er a d).sel = s.sel := by
  unfold St.begin
  split
  · rfl
  · split <;> rfl
theorem putStatus_sel (s : St) (k : Cmd) : (s.putStatus k).sel = s.sel := by unfold St.putStatus; split <;> rfl
theorem obey_sel (s : St) (k : Cmd) : (s.obey k).sel = s.sel := by
  unfold St.obey
  split
  · rfl
  · split
    · rfl
    · split
      · rfl
      · split
        · rfl
        · split
          · exact putStatus_sel s k
          · split
            · split
              · exact begin_sel _ _ _ _
              · rfl
            · split
              · exact begin_sel _ _ _ _
              · rfl
theorem say_sel (s : St) (X : List Nat) : (s.say X).sel = false := by
  unfold St.say St.deselect
  split
  · rw [obey_sel]; rfl
  · rfl

/-- .. the durations below block B. -/
def LiesB (B n b : Nat) (w : World) (s : St) : Prop := ∃ ds, At w b s ds ∧ Durs w b ds s.durs ∧ (∀ g, ds.ownBlock = some g → 0 < s.durs.length → g < B) ∧ s.Ok n ∧ b < B
theorem LiesB.lies {B n b : Nat} {w : World} {s : St} (h : LiesB B n b w s) : Lies n b w s := by
  obtain ⟨ds, h1, h2, h3, h4, h5⟩ := h
  exact ⟨⟨ds, h1, h2⟩, h4⟩
theorem Lies.under {n b : Nat} {w : World} {s : St} (h : Lies n b w s) : LiesB w.heap.size n b w s := by
  obtain ⟨⟨ds, h1, h2⟩, h3⟩ := h
  exact ⟨ds, h1, h2, h2.old, h3, Blk.lt h1⟩
theorem LiesB.below {B n b : Nat} {w w' : World} {s : St} (h : LiesB B n b w s) (k : Below B w w') : LiesB B n b w' s := by
  obtain ⟨ds, h1, h2, h3, h4, h5⟩ := h
  refine ⟨ds, ?_, ?_, h3, h4, h5⟩
  · unfold At Blk at h1 ⊢
    rw [k.block b h5]; exact h1
  · refine ⟨?_, h2.2⟩
    obtain ⟨a, cap, rfl, hr⟩ := h2.1
    refine ⟨a, cap, rfl, fun h0 => ?_⟩
    obtain ⟨g, o, rfl, hc⟩ := hr h0
    refine ⟨g, o, rfl, fun j hj => ?_⟩
    rw [k.cell (show (⟨g, o + j, none⟩ : Addr).block < B from h3 g rfl h0)]
    exact hc j hj
theorem clock_liesB (B n b : Nat) (s : St) (x : Nat) (w : World) (h : LiesB B n b w s) (hn : n < 4611686018427387903) (hx : x < 16) :
    Calls Tryz.prog 14 #[.pointer (some ⟨b, 0, none⟩), .int .i64 (x : Int)] w fun e w' => e = .returned (.tuple #[.int .i64 ((s.clock x).2 : Int), .int .i64 0]) ∧ LiesB B (n + 1) b w' (s.clock x).1 ∧ Only b w w' := by
  obtain ⟨ds, hA, hD, hB, hs, hb⟩ := h
  exact (clock_any n b s ds x w hA hs hn hx).mono fun e w' ⟨h1, h2, h3⟩ => ⟨h1, ⟨ds, h2, by rw [clock_durs]; exact hD.only h3, by rw [clock_durs]; exact hB, clock_ok hs x, hb⟩, h3⟩
theorem select_liesB (B n b : Nat) (s : St) (w : World) (h : LiesB B n b w s) (hl : s.sel = false) :
    Calls Tryz.prog 10 #[.pointer (some ⟨b, 0, none⟩)] w fun e w' => e = .returned (.int .i64 0) ∧ LiesB B n b w' s.select ∧ Only b w w' := by
  obtain ⟨ds, hA, hD, hB, hs, hb⟩ := h
  exact (select_any n b s ds w hA hs hl).mono fun e w' ⟨h1, h2, h3⟩ => ⟨h1, ⟨ds, h2, by rw [select_durs]; exact hD.only h3, by rw [select_durs]; exact hB, select_ok hs, hb⟩, h3⟩
theorem row_only {B b : Nat} {w w' : World} {v : Value} {n : Nat} {xs : List Value} (h : w.ownsRow B 3 1 v n xs) (k : Only b w w') (hb : b < B) : w'.ownsRow B 3 1 v n xs := by
  obtain ⟨h1, h2 | ⟨g, cap, cur, h3, h4, h5, h6⟩⟩ := h
  · exact ⟨h1, Or.inl h2⟩
  · refine ⟨h1, Or.inr ⟨g, cap, cur, h3, h4, ?_, h6⟩⟩
    have hg : g < w.heap.size := by
      rcases Nat.lt_or_ge g w.heap.size with hlt | hge
      · exact hlt
      · rw [Array.getElem?_eq_none hge] at h5; cases h5
    rw [k.block g hg (by omega)]; exact h5
theorem Only.then {b : Nat} {u v w : World} (h : Only b u v) (k : Below u.heap.size v w) : Only b u w :=
  ⟨k.os.trans h.os, k.tape.trans h.tape, k.output.trans h.output, Nat.le_trans h.size k.size, fun i hi hb => (k.block i hi).trans (h.block i hi hb)⟩

set_option maxRecDepth 100000 in
set_option maxHeartbeats 4000000 in
theorem say_any (n m b : Nat) (s : St) (v : Value) (X : List Nat) (w : World) (h : Lies n b w s) (hl : s.sel = false) (hv : Reads w v (nums X)) (hvb : ∀ g, v.ownBlock = some g → 0 < X.length → g ≠ b) (hb : ∀ x ∈ X, x < 16) (hX : X.length ≤ 40000) (hn : n < 1000000) :
    Calls Tryz.prog 30 #[.pointer (some ⟨b, 0, none⟩), v] w fun e w' => ∃ a c, e = .returned (.slice a X.length c) ∧ Hid (Owns w.heap.size w' (.slice a X.length c) (nums (s.hears X))) ∧ Lies m b w' (s.say X) ∧ Only b w w' := by
  obtain ⟨i0, hi, hz0, hz1, hz2⟩ := info_parts info3
  obtain ⟨a, cap, rfl, hr⟩ := hv
  rw [nums_length] at hr ⊢
  have HR : Hid (0 < X.length → ∃ g o, a = some ⟨g, o, none⟩ ∧ ∀ j, j < X.length → w.cell? ⟨g, o + j, none⟩ = some (.int .i64 ((nums X).getD j 0))) := hr
  clear hr
  have hblt := h.lt
  have HB0 : Hid (LiesB w.heap.size n b w s) := h.under
  obtain ⟨t, Ht⟩ : ∃ t, Hid (s.select = t) := ⟨_, rfl⟩
  have htsel : t.sel = true := by rw [← Ht.out]; exact select_sel s
  have HSel : Hid (Calls Tryz.prog 10 #[.pointer (some ⟨b, 0, none⟩)] w fun e w' => e = .returned (.int .i64 0) ∧ LiesB w.heap.size n b w' t ∧ Only b w w') := by rw [← Ht.out]; exact select_liesB w.heap.size n b s w HB0.out hl
  have HE1 : Hid (s.say X = (t.run X).1.deselect) := by show (s.select.run X).1.deselect = _; rw [Ht.out]
  have HE2 : Hid (s.hears X = (t.run X).2) := by show (s.select.run X).2 = _; rw [Ht.out]
  clear h
  go_enter Tryz.func30, Tryz.ntmps30
  go_wp2_with (go_at_call 10; refine HSel.out.mono ?_; rintro e w1 ⟨rfl, h1, o1⟩)
  have H1 : Hid (LiesB w.heap.size n b w1 t) := h1
  clear h1
  go_loopw [5, 6] (fun v i wr => ∃ (k : Nat) (M : List Nat), k ≤ X.length ∧ i = .int .i64 k ∧ wr.ownsRow w.heap.size 3 1 v (nums M).length ((nums M).map (Value.int .i64)) ∧ Hid (M = (t.run (X.take k)).2) ∧ Hid (LiesB w.heap.size (n + k) b wr (t.run (X.take k)).1) ∧ Hid (Only b w wr)) (fun _ i _ => (X.length - intOf i).toNat)
  case atStart => exact ⟨0, [], by omega, rfl, World.ownsRow_nil _ _ _ _, rfl, H1, o1⟩
  case round =>
    obtain ⟨k, M, hk, rfl, hM, HM, HL, HO⟩ := hrel
    have HMl : Hid ((nums M).length = k) := by show _ = _; rw [nums_length, HM.out, run_length, List.length_take]; omega
    have hMl : (nums M).length ≤ 50000 := by have := HMl.out; omega
    by_cases hlt : k < X.length
    · obtain ⟨g, o, rfl, hc⟩ := HR.out (by omega)
      obtain ⟨x, Hx⟩ : ∃ x, Hid (X[k]? = some x) := ⟨X[k], List.getElem?_eq_getElem hlt⟩
      have hx16 : x < 16 := hb x (List.mem_of_getElem? Hx.out)
      have ck0 := hc k hlt
      rw [nums_getD, List.getD_eq_getElem?_getD, Hx.out] at ck0
      have hgb : g ≠ b := hvb g rfl (by omega)
      have ck : wr.cell? ⟨g, o + k, none⟩ = some (.int .i64 (x : Int)) := by rw [HO.out.cell (cell_lt ck0) hgb]; exact ck0
      obtain ⟨r, Hr⟩ : ∃ r, Hid ((t.run (X.take k)).1 = r) := ⟨_, rfl⟩
      have HLr : Hid (LiesB w.heap.size (n + k) b wr r) := by rw [← Hr.out]; exact HL
      obtain ⟨y, Hy⟩ : ∃ y, Hid ((r.clock x).2 = y) := ⟨_, rfl⟩
      have Hck : Hid (∀ u : World, LiesB w.heap.size (n + k) b u r → Calls Tryz.prog 14 #[.pointer (some ⟨b, 0, none⟩), .int .i64 (x : Int)] u fun e w' => e = .returned (.tuple #[.int .i64 (y : Int), .int .i64 0]) ∧ LiesB w.heap.size (n + k + 1) b w' (r.clock x).1 ∧ Only b u w') := fun u hu => by rw [← Hy.out]; exact clock_liesB w.heap.size (n + k) b r x u hu (by omega) hx16
      have Hstep : Hid (t.run (X.take (k + 1)) = ((r.clock x).1, M ++ [y])) := by
        show _ = _
        rw [take_one X k x Hx.out, run_append, run_one, Hr.out, Hy.out, HM.out]
      have HMo : Hid (wr.ownsRow w.heap.size 3 1 u5 (nums M).length ((nums M).map (Value.int .i64))) := hM
      clear hc ck0 HR hM HL
      go_wp2_with (first | (go_at_call 14; refine (Hck.out _ HLr.out).mono ?_; rintro e w2 ⟨rfl, h2, o2⟩; (have hM2 : w2.ownsRow w.heap.size 3 1 u5 (nums M).length ((nums M).map (Value.int .i64)) := row_only HMo.out o2 hblt); (have hsz2 : w.heap.size ≤ w2.heap.size := Nat.le_trans HO.out.size o2.size); (have H2 : Hid (LiesB w.heap.size (n + k + 1) b w2 (r.clock x).1) := h2); (have HO2 : Hid (Only b w w2) := HO.out.trans o2); clear h2 o2) | (at_builtin; refine wpList_append_lies _ rfl _ _ 33 rfl w.heap.size 3 i0 (.int .i64 0) 1 8 Tryz.underlying33 hi hz0 hz1 hz2 rfl (by decide) _ _ _ rfl (hM2.alloc _) ⟨w2.heap.size, 0, none⟩ 1 1 [.int .i64 (y : Int)] rfl rfl ?c1 ?c2 (by decide) ?c3 ?c4 ?c5 (w2.heap.size + 1) (by simp) ?_))
      case c1 =>
        intro j u hj
        match j, hj with
        | 0, hj => simp at hj; subst hj; simp [Addr.add]
      case c2 => intro u hu; simp at hu; subst hu; rfl
      case c3 => unfold maxLen; omega
      case c4 => omega
      case c5 => simp; omega
      intro g2 cap2 w3 hown hgrow hat hlt2
      have HW : Hid (w3.ownsRow w.heap.size 3 1 (.slice (some ⟨g2, 0, none⟩) ((nums M).length + 1) cap2) (nums (M ++ [y])).length ((nums (M ++ [y])).map (Value.int .i64))) := by
        rw [Hid, nums_append, List.map_append, List.length_append]; exact hown
      have HBl : Hid (Below w.heap.size w2 w3) := (((Below.refl w.heap.size w2).alloc hsz2 _)).grown hgrow (by simp; omega) fun k hk => (hM2.lt k hk).1
      have H3 : Hid (LiesB w.heap.size (n + k + 1) b w3 (r.clock x).1) := H2.out.below HBl.out
      have HO3 : Hid (Only b w w3) := HO2.out.then HBl.out
      clear hown hgrow hat hlt2 hM2 hsz2 ck
      go_wp2
      go_roundw
      case rel => exact ⟨k + 1, M ++ [y], by omega, by go_num, HW.out, by rw [Hid, Hstep.out], by rw [Hstep.out]; exact H3, HO3⟩
      case measure => simp [intOf]; omega
    · have hkX : k = X.length := by omega
      have HT : Hid (M = s.hears X) := by show _ = _; rw [HE2.out, HM.out, hkX, List.take_length]
      have HL2 : Hid (LiesB w.heap.size (n + X.length) b wr (t.run X).1) := by have := HL.out; rw [hkX, List.take_length] at this; exact this
      obtain ⟨r, Hr⟩ : ∃ r, Hid ((t.run X).1 = r) := ⟨_, rfl⟩
      have hrs : r.sel = true := by rw [← Hr.out, run_sel]; exact htsel
      have HLr : Hid (Lies (n + X.length) b wr r) := by rw [← Hr.out]; exact HL2.out.lies
      rw [HMl.out, hkX] at hM
      have HMo : Hid (wr.ownsRow w.heap.size 3 1 u5 X.length ((nums M).map (Value.int .i64))) := hM
      have HF : Hid (∃ a c, u5 = .slice a X.length c) := by
        obtain ⟨_, ⟨e1, h2⟩ | ⟨g, cp, cur, e1, _⟩⟩ := hM
        · exact ⟨none, 0, by rw [e1, h2]⟩
        · exact ⟨_, cp, e1⟩
      have hkd : decide ((k : Int) < (X.length : Int)) = false := decide_eq_false (by omega)
      clear hM hkX hMl HL HL2
      go_wp2_with (go_at_call 12; refine (deselect_lies (n + X.length) m b r _ HLr.out (by omega) hrs).mono ?_; rintro e w2 ⟨rfl, h2, o2⟩)
      go_ret
      obtain ⟨a, c, e⟩ := HF.out
      refine ⟨a, c, congrArg _ e, ?_, ?_, HO.out.trans o2⟩
      · show w2.ownsRow _ _ _ _ _ _
        have hl2 : (nums M).length = X.length := by rw [nums_length, HT.out]; exact run_length _ _
        rw [← HT.out, hl2, ← e]
        exact row_only HMo.out o2 hblt
      · rw [HE1.out, Hr.out]; exact h2
end Go.Proofs.YthhchfldgkgfpaaGreat
