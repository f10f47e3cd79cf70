/-
  The controller runs a command: one contract for every command, place, data, read. Conditions: it lies in memory as told; the data are no longer than memory bears. The controller runs a command: one contract for every command, place, data, read. Conditions: it lies in memory as told; the data are no longer than memory bears.
-/
import Derived.Test.YtjhjghakfedeeaaGreatCtlLast
import Derived.Test.YtjhjghakfedeeaaGreatRow
import Derived.Test.YtjhjghakfedeeaaGreatCmdD
/-! The controller runs a command: one contract for every command, place, data, read. Conditions: it lies in memory as told; the data are no longer than memory bears. -/
section
namespace Go.Proofs.YtjhjghakfedeeaaGreat
open Go.RowKit Plain
set_option linter.unusedVariables false

theorem KBody.more {n m kb bp : Nat} {w : World} {k : K} {R1 : List Int} {f1 : Nat} {R2 : List Int} {f2 : Nat} {lv ds : Value} (h : KBody n kb bp w k R1 f1 R2 f2 lv ds) (hm : n ≤ m) : KBody m kb bp w k R1 f1 R2 f2 lv ds :=
  ⟨h.lay, h.chip, h.durs, h.dblk, h.last, h.ok.mono hm, h.ne, h.sel, h.left, Nat.le_trans h.clocks hm⟩
theorem KAt.more {n m kb bp : Nat} {w : World} {k : K} (h : KAt n kb bp w k) (hm : n ≤ m) : KAt m kb bp w k := by
  obtain ⟨R1, f1, R2, f2, lv, ds, h⟩ := h
  exact ⟨R1, f1, R2, f2, lv, ds, h.more hm⟩
theorem KRg.more {n m kb bp : Nat} {R1 : List Int} {f1 : Nat} {R2 : List Int} {f2 : Nat} {w : World} {k : K} (h : KRg n kb bp R1 f1 R2 f2 w k) (hm : n ≤ m) : KRg m kb bp R1 f1 R2 f2 w k := by
  obtain ⟨lv, ds, h⟩ := h
  exact ⟨lv, ds, h.more hm⟩
theorem KRg.below {n kb bp : Nat} {R1 : List Int} {f1 : Nat} {R2 : List Int} {f2 : Nat} {w w' : World} {k : K} (h : KRg n kb bp R1 f1 R2 f2 w k) (b : Below w.heap.size w w') : KRg n kb bp R1 f1 R2 f2 w' k := by
  obtain ⟨lv, ds, h⟩ := h
  exact ⟨lv, ds, h.below b⟩
/-- A read that goes on ended. -/
def K.endR (k : K) : K := if k.goes = true then (if whB lastP k.most = true then { k.like.drv lastP with goes := false } else k.like.drv lastP) else k
def K.endE (k : K) : Int := if k.goes = true then k.drvE lastP else 0
theorem last_small (m : Int) : endN lastP m ≤ 8 := by have := endN_le lastP m; rw [last_n] at this; exact this

set_option maxRecDepth 100000 in
set_option maxHeartbeats 2000000 in
theorem cend_any (n kb bp : Nat) (R1 : List Int) (f1 : Nat) (R2 : List Int) (f2 : Nat) (k : K) (w : World) (h : KRg n kb bp R1 f1 R2 f2 w k) (hl : k.lost = false) (hn : n ≤ 1000000000000000) :
    Calls Tryz.prog 76 #[.pointer (some ⟨kb, 0, none⟩)] w fun e w' => e = .returned (.int .i64 k.endE) ∧ KRg (n + 8) kb bp R1 f1 R2 f2 w' k.endR ∧ Turns (F2 kb bp) w w' := by
  obtain ⟨lv, ds, B⟩ := h
  have c40 : w.cell? ⟨kb, 40, none⟩ = some (.bool k.goes) := B.lay.tail 0 rfl
  have HB : Hid (KBody n kb bp w k R1 f1 R2 f2 lv ds) := B
  have HL : Hid (k.lost = false) := hl
  have HN : Hid (n ≤ 1000000000000000) := hn
  obtain hg | hg : k.goes = false ∨ k.goes = true := by cases k.goes <;> simp
  · have e1 : k.endE = 0 := by unfold K.endE; rw [if_neg (by rw [hg]; decide)]
    have e2 : k.endR = k := by unfold K.endR; rw [if_neg (by rw [hg]; decide)]
    rw [e1, e2]
    rw [hg] at c40
    clear B hl hn hg e1 e2
    go_enter Tryz.func76, Tryz.ntmps76
    go_wp2
    go_ret
    exact ⟨rfl, ⟨lv, ds, HB.out.more (Nat.le_add_right _ _)⟩, Turns.refl _ _⟩
  · have HC := clast_any n kb bp k R1 f1 R2 f2 lv ds w B
    have HC : Hid (Calls _ _ _ _ _) := HC
    have HE1 : Hid (k.endE = k.drvE lastP) := by unfold Hid K.endE; rw [if_pos hg]
    have HE2 : Hid (k.endR = if whB lastP k.most = true then { k.like.drv lastP with goes := false } else k.like.drv lastP) := by unfold Hid K.endR; rw [if_pos hg]
    rw [HE1.out]
    obtain ⟨kz, HZ⟩ : ∃ kz, Hid (k.endR = kz) := ⟨_, rfl⟩
    rw [HZ.out] at HE2 ⊢
    obtain ⟨z, HZ2⟩ : ∃ z, Hid (k.drvE lastP = z) := ⟨_, rfl⟩
    rw [HZ2.out]
    rw [hg] at c40
    clear B hl hn hg
    go_enter Tryz.func76, Tryz.ntmps76
    go_wp2_with fail
    refine HC.out.mono ?_
    rintro e w1 ⟨lv1, rfl, B1, o1⟩
    have HB1 : Hid (KBody n kb bp w1 k.like R1 f1 R2 f2 lv1 ds) := B1
    have HT1 : Hid (Turns (F2 kb bp) w w1) := F2.only1 o1
    clear HC B1 o1
    go_wp2_with fail
    refine (cdrive_any n kb bp k.like R1 f1 R2 f2 lv1 ds lv1 lastP w1 HB1.out HL.out (HB1.out.last rfl) last_fit last_ok (by have := last_small k.like.most; omega) HN.out).mono ?_
    rintro e w2 ⟨u, rfl, hu, k2, t2⟩
    have HT2 : Hid (Turns (F2 kb bp) w w2) := HT1.out.trans t2
    have K2 : Hid (KRg (n + 8) kb bp R1 f1 R2 f2 w2 (k.like.drv lastP)) := k2.more (by have := last_small k.like.most; omega)
    obtain ⟨ua, uc, rfl⟩ := own_slice hu
    obtain ⟨U, hU⟩ : ∃ U, (k.like.drvV lastP).length = U := ⟨_, rfl⟩
    rw [hU]
    have hE : k.like.drvE lastP = z := HZ2.out
    rw [hE]
    clear hu k2 t2 HT1 hU hE
    obtain hw | hw : whB lastP k.most = false ∨ whB lastP k.most = true := by cases whB lastP k.most <;> simp
    · have e1 : k.drvE lastP = 1101 := by unfold K.drvE; rw [if_neg (by rw [hw]; decide)]
      have E2 : Hid (k.like.drv lastP = kz) := by unfold Hid; rw [HE2.out, if_neg (by rw [hw]; decide)]
      obtain rfl : z = 1101 := HZ2.out.symm.trans e1
      rw [E2.out] at K2
      clear hw e1
      go_wp2
      go_ret
      exact ⟨rfl, K2.out, HT2.out⟩
    · have e1 : k.drvE lastP = 0 := by unfold K.drvE; rw [if_pos hw]
      have E2 : Hid ({ k.like.drv lastP with goes := false } = kz) := by unfold Hid; rw [HE2.out, if_pos hw]
      obtain rfl : z = 0 := HZ2.out.symm.trans e1
      obtain ⟨lv', ds', B2⟩ := K2.out
      obtain ⟨kd, hkd⟩ : ∃ kd, k.like.drv lastP = kd := ⟨_, rfl⟩
      rw [hkd] at B2 E2
      have c40' : w2.cell? ⟨kb, 40, none⟩ = some (.bool kd.goes) := B2.lay.tail 0 rfl
      have f40 := B2.lay.frozen 40
      have o3 := (Only.refl kb w2).set 40 (.bool false)
      have B3 : Hid (KBody (n + 8) kb bp (w2.setCell ⟨kb, 40, none⟩ (.bool false)) { kd with goes := false } R1 f1 R2 f2 lv' ds') :=
        B2.turn o3 (B2.lay.setTail 0 (.bool false) { kd with goes := false } lv' rfl rfl rfl rfl) rfl (fun hm => (B2.last hm).turns (F2.only1 o3)) rfl B2.left B2.clocks
      have HT3 : Hid (Turns (F2 kb bp) w (w2.setCell ⟨kb, 40, none⟩ (.bool false))) := HT2.out.trans (F2.only1 o3)
      rw [E2.out] at B3
      clear B2 K2 HT2 hw e1 hkd o3
      go_wp2
      go_ret
      exact ⟨rfl, ⟨lv', ds', B3.out⟩, HT3.out⟩

/-- Does a command fit? Its row. -/
def fitC (b k : Int) (L : List Int) (r : Int) : Bool := fitB b (opA b) (opM b) (opD b) (opN b) (opI b) k L r
def rowP (b k : Int) (L : List Int) (r : Int) : List Ph := phL (b, opA b, opM b, opD b, opN b, opI b) k.toNat L r
def isOn (b : Int) (L : List Int) : Bool := decide (b = 235) && decide (L.getD 0 0 = 160)

theorem find_no' (b : Int) (w : World) (h : isOp b = false) : Calls Tryz.prog 116 #[.int .i64 b] w fun e w' => e = .returned (.tuple #[.agg #[.int .i64 0, .int .i64 0, .bool false, .int .i64 0, .int .i64 0, .bool false], .int .i64 900]) ∧ Below w.heap.size w w' := by
  refine (find_any b w).mono fun e w' ⟨he, hb⟩ => ⟨?_, hb⟩
  obtain ⟨e0, e1, e2, e3, e4, e5⟩ := none_parts h
  rw [he, e0, e1, e2, e3, e4, e5, h]
  rfl
theorem find_yes' (b : Int) (w : World) (h : isOp b = true) : Calls Tryz.prog 116 #[.int .i64 b] w fun e w' => e = .returned (.tuple #[.agg #[.int .i64 b, .int .i64 (opA b), .bool (opM b), .int .i64 (opD b), .int .i64 (opN b), .bool (opI b)], .int .i64 0]) ∧ Below w.heap.size w w' :=
  (find_any b w).mono fun e w' ⟨he, hb⟩ => ⟨by rw [he, opB, if_pos h, if_pos h], hb⟩
theorem pin_own {B : Nat} {w : World} {v : Value} {qs : List (Value × Ph)} (h : POwns B w v qs) : PIn (fun g => B ≤ g) w v (qs.map Prod.snd) := by
  rcases h.1.2 with ⟨rfl, hn⟩ | ⟨g, cap, cur, rfl, hb, hg, hnc, hcm, hcs, ht⟩
  · exact ⟨none, 0, by rw [List.length_map, hn], by rw [List.length_map]; omega, fun hp => by rw [List.length_map] at hp; omega⟩
  · refine ⟨some ⟨g, 0, none⟩, cap, by rw [List.length_map], by rw [List.length_map]; exact hnc, fun hp => ⟨g, 0, rfl, hb, fun j p hj => ?_⟩⟩
    rw [List.getElem?_map] at hj
    obtain ⟨q, hq, rfl⟩ := Option.map_eq_some_iff.1 hj
    have hlt : j < qs.length := by
      rcases Nat.lt_or_ge j qs.length with h | h
      · exact h
      · rw [List.getElem?_eq_none h] at hq; cases hq
    obtain ⟨c0, c1, c2, c3⟩ := rowC_at qs j q hq
    have e : ∀ k, k < 4 → w.cell? ⟨g, 0 + j * 4 + k, none⟩ = (rowC qs)[j * 4 + k]? := fun k hk => by
      rw [Nat.zero_add, h.1.cellAt (j * 4 + k) (by omega)]
    have ho := h.2 q (List.mem_of_getElem? hq)
    refine ⟨q.1, ?_, (e 0 (by omega)).trans c0, (e 1 (by omega)).trans c1, (e 2 (by omega)).trans c2, (e 3 (by omega)).trans c3⟩
    have hbl := owns_block ho
    obtain ⟨a, c, he, hr⟩ := ho.reads
    refine ⟨a, c, he, fun h0 => ?_⟩
    obtain ⟨g2, o2, rfl, hc⟩ := hr h0
    exact ⟨g2, o2, rfl, hbl g2 (by rw [he]; rfl) h0, hc⟩

/-- What layer 9 answers the controller. -/
def Tells9 (b k : Int) (L : List Int) (r : Int) (w : World) (e : Ending) (w' : World) : Prop :=
  ((fitC b k L r = false ∧ e = .returned (.tuple #[.slice none 0 0, .int .i64 900])) ∨ (fitC b k L r = true ∧ ∃ v, e = .returned (.tuple #[v, .int .i64 0]) ∧ PIn (fun g => w.heap.size ≤ g) w' v (rowP b k L r))) ∧ Below w.heap.size w w'

set_option maxRecDepth 100000 in
set_option maxHeartbeats 2000000 in
theorem cphases_any (b k : Int) (a : Option Addr) (n c : Nat) (L : List Int) (r : Int) (w : World) (hC : Came w a n c L) (hn : n * 8 ≤ 140737488351232) :
    Calls Tryz.prog 75 #[.int .i64 b, .int .i64 k, .slice a n c, .int .i64 r] w (Tells9 b k L r w) := by
  have HC : Hid (Came w a n c L) := hC
  have HN : Hid (n * 8 ≤ 140737488351232) := hn
  clear hC hn
  cases ho : isOp b
  · have HF : Hid (fitC b k L r = false) := fit_no (.inl (by unfold knB; rw [ho]; rfl))
    go_enter Tryz.func75, Tryz.ntmps75
    go_wp2_with fail
    refine (find_no' b _ ho).mono ?_
    rintro e w1 ⟨rfl, b1⟩
    have B1 : Hid (Below w.heap.size w w1) := b1
    clear b1
    go_wp2
    go_ret2
    exact ⟨.inl ⟨HF.out, rfl⟩, by first | exact B1.out | exact below_then B1.out (below_new _ _)⟩
  · go_enter Tryz.func75, Tryz.ntmps75
    go_wp2_with fail
    refine (find_yes' b _ ho).mono ?_
    rintro e w1 ⟨rfl, b1⟩
    have B1 : Hid (Below w.heap.size w w1) := b1
    clear b1
    go_wp2_with fail
    refine (command_any b (opA b) (opM b) (opD b) (opN b) (opI b) k a n c L r _ (HC.out.below (by first | exact B1.out | exact below_then B1.out (below_new _ _))) HN.out).mono ?_
    rintro e w2 ⟨hd, b2⟩
    have B2 : Hid (Below w.heap.size w w2) := by first | exact below_then B1.out b2 | exact below_then (below_then B1.out (below_new _ _)) b2
    have hsz : w.heap.size ≤ w1.heap.size := B1.out.size
    have HS : Hid (w.heap.size ≤ w1.heap.size) := hsz
    clear b2 hsz
    rcases hd with ⟨hf, rfl⟩ | ⟨hf, v, rfl, qs, hp, hX⟩
    · have HF : Hid (fitC b k L r = false) := hf
      clear hf
      go_wp2
      go_ret2
      exact ⟨.inl ⟨HF.out, rfl⟩, B2.out⟩
    · have HF : Hid (fitC b k L r = true) := hf
      have HP : Hid (PIn (fun g => w.heap.size ≤ g) w2 v (rowP b k L r)) := by
        have := (pin_own hp).mono (R := fun g => w.heap.size ≤ g) fun g hg _ => by
          have := HS.out
          first | omega | (simp at hg; omega)
        rw [hX] at this
        exact this
      obtain ⟨va, vc, rfl, -⟩ := id HP.out
      clear hf hp hX
      go_wp2
      go_ret2
      exact ⟨.inr ⟨HF.out, _, rfl, HP.out⟩, B2.out⟩

/-- A row that is driven, behind which a read goes on or not. -/
def K.fin (k : K) (ps : List Ph) (g : Bool) : K × List Int × Int := if whB ps k.most = true then ({ k.drv ps with goes := g }, drvL k.s ps k.most, 0) else (k.drv ps, [], 1101)
/-- What Run leaves and answers. -/
def K.runs (k : K) (b at' : Int) (L : List Int) (r : Int) : K × List Int × Int :=
  if k.lost = true then (k, [], 1101)
  else if fitC b at' L r = false then (k, [], 1100)
  else if k.goes = true ∧ b = 235 then k.fin (rowP b at' L r).tail (isOn b L)
  else if k.goes = true ∧ whB lastP k.most = false then (k.endR, [], 1101)
  else k.endR.fin (rowP b at' L r) (isOn b L)
theorem rowP_on (at' : Int) (L : List Int) (r : Int) (h : fitC 235 at' L r = true) : ∃ p q ps, rowP 235 at' L r = p :: q :: ps ∧ L.length = 1 := by
  obtain ⟨h1, h2, h3, h4, h5⟩ := fit_parts h
  exact ⟨_, _, _, rfl, (mode_row h1 h5 (by decide)).2⟩
theorem endR_lost (k : K) (hl : k.lost = false) (h : ¬ (k.goes = true ∧ whB lastP k.most = false)) : k.endR.lost = false ∧ k.endE = 0 := by
  unfold K.endR K.endE
  cases hg : k.goes
  · exact ⟨by rw [if_neg (by decide)]; exact hl, by rw [if_neg (by decide)]⟩
  · have hw : whB lastP k.most = true := by
      cases hw : whB lastP k.most
      · exact absurd ⟨hg, hw⟩ h
      · rfl
    rw [if_pos rfl, if_pos rfl, if_pos hw]
    unfold K.drvE
    rw [if_pos hw]
    refine ⟨?_, rfl⟩
    show (!whB lastP k.most) = false
    rw [hw]; rfl
theorem endE_cut (k : K) (h : k.goes = true ∧ whB lastP k.most = false) : k.endE = 1101 := by
  unfold K.endE K.drvE
  rw [if_pos h.1, if_neg (by rw [h.2]; decide)]
end Go.Proofs.YtjhjghakfedeeaaGreat
end

/-! The controller runs a command: one contract for every command, place, data, read. Conditions: it lies in memory as told; the data are no longer than memory bears. -/
section
namespace Go.Proofs.YtjhjghakfedeeaaGreat
open Go.RowKit Plain
set_option linter.unusedVariables false

theorem cdrive_at (n kb bp : Nat) (R1 : List Int) (f1 : Nat) (R2 : List Int) (f2 : Nat) (k : K) (v : Value) (ps : List Ph) (w : World) (h : KRg n kb bp R1 f1 R2 f2 w k) (hl : k.lost = false) (hv : PIn (fun g => g ≠ kb ∧ g ≠ bp) w v ps) (hok : okR ps = true) (hlen : ps.length ≤ 6) (hn : n ≤ 1000000000000000) :
    Calls Tryz.prog 77 #[.pointer (some ⟨kb, 0, none⟩), v] w fun e w' => ∃ u, e = .returned (.tuple #[u, .int .i64 (k.drvE ps)]) ∧ Owns w.heap.size w' u (k.drvV ps) ∧ KRg (n + 24576) kb bp R1 f1 R2 f2 w' (k.drv ps) ∧ Turns (F2 kb bp) w w' := by
  obtain ⟨lv, ds, B⟩ := h
  refine (cdrive_any n kb bp k R1 f1 R2 f2 lv ds v ps w B hl hv (fit_of_ok hok (by omega)) hok (by have := endN_small hok hlen k.most; omega) hn).mono ?_
  rintro e w' ⟨u, h1, h2, h3, h4⟩
  exact ⟨u, h1, h2, h3.more (by have := endN_small hok hlen k.most; omega), h4⟩
theorem KRg.goesOn {n kb bp : Nat} {R1 : List Int} {f1 : Nat} {R2 : List Int} {f2 : Nat} {w : World} {k : K} (h : KRg n kb bp R1 f1 R2 f2 w k) (g : Bool) : w.cell? ⟨kb, 40, none⟩ = some (.bool k.goes) ∧ w.frozen? ⟨kb, 40, none⟩ = false ∧ KRg n kb bp R1 f1 R2 f2 (w.setCell ⟨kb, 40, none⟩ (.bool g)) { k with goes := g } ∧ Turns (F2 kb bp) w (w.setCell ⟨kb, 40, none⟩ (.bool g)) := by
  obtain ⟨lv, ds, B⟩ := h
  have o := (Only.refl kb w).set 40 (.bool g)
  exact ⟨B.lay.tail 0 rfl, B.lay.frozen 40, ⟨lv, ds, B.turn o (B.lay.setTail 0 (.bool g) { k with goes := g } lv rfl rfl rfl rfl) rfl (fun hm => (B.last hm).turns (F2.only1 o)) rfl B.left B.clocks⟩, F2.only1 o⟩
theorem fin_no (k : K) (ps : List Ph) (g : Bool) (hw : whB ps k.most = false) : k.fin ps g = (k.drv ps, [], 1101) ∧ k.drvE ps = 1101 := by
  unfold K.fin K.drvE
  rw [if_neg (by rw [hw]; decide), if_neg (by rw [hw]; decide)]
  exact ⟨rfl, rfl⟩
theorem fin_yes (k : K) (ps : List Ph) (g : Bool) (hw : whB ps k.most = true) : k.fin ps g = ({ k.drv ps with goes := g }, drvL k.s ps k.most, 0) ∧ k.drvE ps = 0 ∧ k.drvV ps = drvL k.s ps k.most := by
  unfold K.fin K.drvE K.drvV
  rw [if_pos hw, if_pos hw, if_pos hw]
  exact ⟨rfl, rfl, rfl⟩
theorem rin_one {Q : Nat → Prop} {w : World} {a : Option Addr} {m c : Nat} {L : List Int} (h : RIn Q w (.slice a m c) L) (hm : L.length = 1) : m = 1 ∧ ∃ g o, a = some ⟨g, o, none⟩ ∧ ∀ w', RIn Q w' (.slice a m c) L → w'.cell? ⟨g, o, none⟩ = some (.int .i64 (L.getD 0 0)) := by
  obtain ⟨a', c', e, hr⟩ := h
  injection e with e1 e2 e3
  subst e1; subst e3
  obtain ⟨g, o, rfl, -, -⟩ := hr (by omega)
  refine ⟨by rw [e2, hm], g, o, rfl, fun w' h' => ?_⟩
  obtain ⟨a2, c2, e, hr2⟩ := h'
  injection e with e1 e2 e3
  subst e1; subst e3
  obtain ⟨g2, o2, eq, -, hc⟩ := hr2 (by omega)
  injection eq with eq; injection eq with q1 q2
  subst q1; subst q2
  have := hc 0 (by omega)
  simpa using this

set_option maxRecDepth 100000 in
set_option maxHeartbeats 8000000 in
theorem crun_rg (n kb bp : Nat) (R1 : List Int) (f1 : Nat) (R2 : List Int) (f2 : Nat) (k : K) (b at' : Int) (a : Option Addr) (m c : Nat) (L : List Int) (r : Int) (w : World) (h : KRg n kb bp R1 f1 R2 f2 w k) (hC : Came w a m c L) (hR : RIn (fun g => g ≠ kb ∧ g ≠ bp) w (.slice a m c) L) (hm : m * 8 ≤ 140737488351232) (hn : n ≤ 999999999900000) :
    Calls Tryz.prog 34 #[.pointer (some ⟨kb, 0, none⟩), .int .i64 b, .int .i64 at', .slice a m c, .int .i64 r] w fun e w' => ∃ u, e = .returned (.tuple #[u, .int .i64 (k.runs b at' L r).2.2]) ∧ Owns w.heap.size w' u (k.runs b at' L r).2.1 ∧ KRg (n + 30000) kb bp R1 f1 R2 f2 w' (k.runs b at' L r).1 ∧ Turns (F2 kb bp) w w' := by
  have HK : Hid (KRg n kb bp R1 f1 R2 f2 w k) := h
  have HR : Hid (RIn (fun g => g ≠ kb ∧ g ≠ bp) w (.slice a m c) L) := hR
  have HN : Hid (n ≤ 999999999900000) := hn
  have HP : Hid (Calls _ _ _ _ _) := cphases_any b at' a m c L r w hC hm
  have c48 : w.cell? ⟨kb, 48, none⟩ = some (.bool k.lost) := by obtain ⟨lv, ds, B⟩ := h; exact B.lay.tail 8 rfl
  have HLt : Hid (kb < w.heap.size ∧ bp < w.heap.size) := by obtain ⟨lv, ds, B⟩ := h; exact ⟨B.lay.lt, Blk.lt B.chip⟩
  clear h hC hR hm hn
  obtain hl | hl : k.lost = false ∨ k.lost = true := by cases k.lost <;> simp
  · have HL : Hid (k.lost = false) := hl
    rw [hl] at c48
    clear hl
    go_enter Tryz.func34, Tryz.ntmps34
    go_wp2_with fail
    refine HP.out.mono ?_
    rintro e w1 ⟨hd, b1⟩
    have B1 : Hid (Below w.heap.size w w1) := b1
    have HK1 : Hid (KRg n kb bp R1 f1 R2 f2 w1 k) := HK.out.below b1
    have HR1 : Hid (RIn (fun g => g ≠ kb ∧ g ≠ bp) w1 (.slice a m c) L) := HR.out.stays fun g hq hlt => b1.block g hlt
    have T1 : Hid (Turns (F2 kb bp) w w1) := Turns.below (Turns.refl _ _) b1
    have S1 : Hid (w.heap.size ≤ w1.heap.size) := b1.size
    clear b1 HP HR
    rcases hd with ⟨hf, rfl⟩ | ⟨hf, v, rfl, hv⟩
    · as_aux_lemma =>
      have HF : Hid (k.runs b at' L r = (k, [], 1100)) := by
        unfold Hid K.runs
        rw [if_neg (by rw [HL.out]; decide), if_pos hf]
      clear hf
      go_wp2_with fail
      refine bodyPost_ret (v := .tuple #[.slice none 0 0, .int .i64 1100]) (by simp [results, Tryz.results34, go_sem]) rfl ⟨_, by rw [HF.out], by rw [HF.out]; exact World.ownsRow_nil _ _ _ _, by rw [HF.out]; exact HK1.out.more (Nat.le_add_right _ _), T1.out⟩
    · have HF : Hid (fitC b at' L r = true) := hf
      have HV : Hid (PIn (fun g => g ≠ kb ∧ g ≠ bp) w1 v (rowP b at' L r)) := hv.mono fun g hg _ => by have := HLt.out; omega
      have HOk : Hid (okR (rowP b at' L r) = true) := fit_ok hf
      have HLen : Hid ((rowP b at' L r).length ≤ 6) := (phL_len _ _ _ _).1
      clear hf hv
      have c40 : w1.cell? ⟨kb, 40, none⟩ = some (.bool k.goes) := by obtain ⟨lv, ds, B⟩ := HK1.out; exact B.lay.tail 0 rfl
      by_cases hon : k.goes = true ∧ b = 235
      · as_aux_lemma =>
        obtain ⟨hg, rfl⟩ := hon
        rw [hg] at c40
        have HE : Hid (k.runs 235 at' L r = k.fin (rowP 235 at' L r).tail (isOn 235 L)) := by
          unfold Hid K.runs
          rw [if_neg (by rw [HL.out]; decide), if_neg (by rw [HF.out]; decide), if_pos ⟨hg, rfl⟩]
        obtain ⟨p, q, ps, hrow, hL1⟩ := rowP_on at' L r HF.out
        rw [hrow] at HV HOk HLen HE
        have hV := HV.out
        obtain ⟨va, vc, rfl, hvc, hv0⟩ := id hV
        obtain ⟨g, o, rfl, -, -⟩ := hv0 (by simp)
        have HOk2 : Hid (okR (q :: ps) = true) := okR_tail HOk.out
        have HLen2 : Hid ((q :: ps).length ≤ 6) := by have := HLen.out; rw [List.length_cons] at this; unfold Hid; omega
        obtain ⟨N', hN⟩ : ∃ N', (q :: ps).length = N' := ⟨_, rfl⟩
        have hN1 : 1 ≤ N' := by rw [← hN]; simp
        have hlen1 : (p :: q :: ps).length = N' + 1 := by rw [List.length_cons, hN]
        rw [hlen1] at hV hvc ⊢
        have HT : Hid (PIn (fun g => g ≠ kb ∧ g ≠ bp) w1 (.slice (some ⟨g, o + 4, none⟩) N' (vc - 1)) (q :: ps)) := PIn.tail hV (by omega) hN g (o + 4) (fun _ => ⟨rfl, rfl⟩)
        obtain ⟨M, hM⟩ : ∃ M, N' + 1 = M := ⟨_, rfl⟩
        rw [hM] at hvc ⊢
        have hM2 : N' = M - 1 := by omega
        rw [hM2] at HT
        have hMl : 1 < M := by omega
        have hcl : 1 < vc := by omega
        have e1 : (1 : Nat) ≤ M := by omega
        have e2 : (1 : Nat) ≤ vc := by omega
        rw [List.tail_cons] at HE
        obtain ⟨X, hX⟩ : ∃ X, q :: ps = X := ⟨_, rfl⟩
        rw [hX] at HT HOk2 HLen2 HE
        have HX : Hid (k.runs 235 at' L r = k.fin X (isOn 235 L)) := HE.out
        obtain ⟨hm1, gd, od, rfl, hcd⟩ := rin_one HR1.out hL1
        subst hm1
        have HCd : Hid (∀ w', RIn (fun g => g ≠ kb ∧ g ≠ bp) w' (.slice (some ⟨gd, od, none⟩) 1 c) L → w'.cell? ⟨gd, od, none⟩ = some (.int .i64 (L.getD 0 0))) := hcd
        have HMM : Hid (M ≤ vc) := by unfold Hid; omega
        clear hV hv0 hN hlen1 hM hM2 hX hrow HV HOk HLen HF HE hcd hN1 hvc hL1 hg
        go_wp2_with fail
        refine (cdrive_at n kb bp R1 f1 R2 f2 k _ X _ HK1.out HL.out HT.out HOk2.out HLen2.out (by have := HN.out; omega)).mono ?_
        rintro e w3 ⟨u, rfl, hu, k3, t3⟩
        have T3 : Hid (Turns (F2 kb bp) w w3) := T1.out.trans t3
        have HR3 : Hid (RIn (fun g => g ≠ kb ∧ g ≠ bp) w3 _ L) := HR1.out.turns t3
        have U3 : Hid (Owns w.heap.size w3 u (k.drvV X)) := owns_down hu S1.out
        have HK3 : Hid (KRg (n + 30000) kb bp R1 f1 R2 f2 w3 (k.drv X)) := k3.more (by omega)
        clear k3 t3 hu
        obtain hw | hw : whB X k.most = false ∨ whB X k.most = true := by cases whB X k.most <;> simp
        · obtain ⟨e3, e4⟩ := fin_no k X (isOn 235 L) hw
          rw [e3] at HX
          rw [e4]
          obtain ⟨ua, uc, rfl⟩ := own_slice U3.out
          obtain ⟨UL, hUL⟩ : ∃ UL, (k.drvV X).length = UL := ⟨_, rfl⟩
          rw [hUL]
          clear hw e3 e4 hUL
          go_wp2_with fail
          refine bodyPost_ret (v := .tuple #[.slice none 0 0, .int .i64 1101]) (by simp [results, Tryz.results34, go_sem]) rfl ⟨_, by rw [HX.out], by rw [HX.out]; exact World.ownsRow_nil _ _ _ _, by rw [HX.out]; exact HK3.out, T3.out⟩
        · obtain ⟨e3, e4, e5⟩ := fin_yes k X (isOn 235 L) hw
          rw [e3] at HX
          rw [e4]
          rw [e5] at U3
          obtain ⟨D, hD⟩ : ∃ D, drvL k.s X k.most = D := ⟨_, rfl⟩
          rw [hD] at U3 HX
          obtain ⟨ua, uc, rfl⟩ := own_slice U3.out
          obtain ⟨kd, hkd⟩ : ∃ kd, k.drv X = kd := ⟨_, rfl⟩
          rw [hkd] at HK3 HX
          clear hw e3 e4 e5 hD hkd

          have cd := HCd.out _ HR3.out
          by_cases h160 : L.getD 0 0 = 160
          · have hgo : isOn 235 L = true := by unfold isOn; rw [h160]; rfl
            rw [hgo] at HX
            rw [h160] at cd
            clear hgo h160
            obtain ⟨c40', f40, k4, t4⟩ := HK3.out.goesOn true
            have K4 : Hid (KRg (n + 30000) kb bp R1 f1 R2 f2 (w3.setCell ⟨kb, 40, none⟩ (.bool true)) { kd with goes := true }) := k4
            have T4 : Hid (Turns (F2 kb bp) w (w3.setCell ⟨kb, 40, none⟩ (.bool true))) := T3.out.trans t4
            have U4 : Hid (Owns w.heap.size (w3.setCell ⟨kb, 40, none⟩ (.bool true)) (.slice ua D.length uc) D) := owns_only U3 ((Only.refl kb w3).set 40 _) HLt.out.1
            clear k4 t4
            go_wp2_with fail
            refine bodyPost_ret (v := .tuple #[.slice ua D.length uc, .int .i64 0]) (by simp [results, Tryz.results34, go_sem]) rfl ⟨_, by rw [HX.out], by rw [HX.out]; exact U4.out, by rw [HX.out]; exact K4.out, T4.out⟩
          · have hgo : isOn 235 L = false := by unfold isOn; rw [decide_eq_false h160]; rfl
            rw [hgo] at HX
            clear hgo
            obtain ⟨z, hz⟩ : ∃ z, L.getD 0 0 = z := ⟨_, rfl⟩
            rw [hz] at cd h160
            have hz2 : (z == 160) = false := beq_eq_false_iff_ne.2 h160
            clear hz
            obtain ⟨c40', f40, k4, t4⟩ := HK3.out.goesOn false
            have K4 : Hid (KRg (n + 30000) kb bp R1 f1 R2 f2 (w3.setCell ⟨kb, 40, none⟩ (.bool false)) { kd with goes := false }) := k4
            have T4 : Hid (Turns (F2 kb bp) w (w3.setCell ⟨kb, 40, none⟩ (.bool false))) := T3.out.trans t4
            have U4 : Hid (Owns w.heap.size (w3.setCell ⟨kb, 40, none⟩ (.bool false)) (.slice ua D.length uc) D) := owns_only U3 ((Only.refl kb w3).set 40 _) HLt.out.1
            clear k4 t4
            go_wp2_with fail
            refine bodyPost_ret (v := .tuple #[.slice ua D.length uc, .int .i64 0]) (by simp [results, Tryz.results34, go_sem]) rfl ⟨_, by rw [HX.out], by rw [HX.out]; exact U4.out, by rw [HX.out]; exact K4.out, T4.out⟩
      · have HE : Hid (¬ (k.goes = true ∧ b = 235)) := hon
        by_cases hcut : k.goes = true ∧ whB lastP k.most = false
        · as_aux_lemma =>
          have HX : Hid (k.runs b at' L r = (k.endR, [], 1101)) := by
            unfold Hid K.runs
            rw [if_neg (by rw [HL.out]; decide), if_neg (by rw [HF.out]; decide), if_neg HE.out, if_pos hcut]
          have HZ : Hid (k.endE = 1101) := endE_cut k hcut
          rw [hcut.1] at c40
          have hb : b ≠ 235 := fun e => HE.out ⟨hcut.1, e⟩
          obtain ⟨va, vc, rfl, -⟩ := id HV.out
          obtain ⟨M, hM⟩ : ∃ M, (rowP b at' L r).length = M := ⟨_, rfl⟩
          rw [hM]
          clear hcut hon hM
          go_wp2_with fail
          refine (cend_any n kb bp R1 f1 R2 f2 k _ HK1.out HL.out (by have := HN.out; omega)).mono ?_
          rintro e w2 ⟨rfl, k2, t2⟩
          rw [HZ.out]
          have HT2 : Hid (Turns (F2 kb bp) w w2) := T1.out.trans t2
          have HK2 : Hid (KRg (n + 30000) kb bp R1 f1 R2 f2 w2 k.endR) := k2.more (by omega)
          clear k2 t2
          go_wp2_with fail
          refine bodyPost_ret (v := .tuple #[.slice none 0 0, .int .i64 1101]) (by simp [results, Tryz.results34, go_sem]) rfl ⟨_, by rw [HX.out], by rw [HX.out]; exact World.ownsRow_nil _ _ _ _, by rw [HX.out]; exact HK2.out, HT2.out⟩
        · have HX : Hid (k.runs b at' L r = k.endR.fin (rowP b at' L r) (isOn b L)) := by
            unfold Hid K.runs
            rw [if_neg (by rw [HL.out]; decide), if_neg (by rw [HF.out]; decide), if_neg HE.out, if_neg hcut]
          have HZ : Hid (k.endE = 0) := (endR_lost k HL.out hcut).2
          have HL2 : Hid (k.endR.lost = false) := (endR_lost k HL.out hcut).1
          obtain ⟨X, hX⟩ : ∃ X, rowP b at' L r = X := ⟨_, rfl⟩
          have HRow : Hid (b = 235 → L.length = 1) := fun hb => by subst hb; obtain ⟨p, q, ps, -, h1⟩ := rowP_on at' L r HF.out; exact h1
          rw [hX] at HV HOk HLen HX
          obtain ⟨va, vc, rfl, -⟩ := id HV.out
          obtain ⟨M, hM⟩ : ∃ M, X.length = M := ⟨_, rfl⟩
          have HVv := HV.out
          rw [hM] at HVv ⊢
          have HV1 : Hid (PIn (fun g => g ≠ kb ∧ g ≠ bp) w1 (.slice va M vc) X) := HVv
          clear hcut hon hM hX HVv HF HV
          by_cases hb : b = 235
          · subst hb
            have hg : k.goes = false := by cases hg : k.goes; rfl; exact absurd ⟨hg, rfl⟩ HE.out
            rw [hg] at c40
            obtain ⟨hm1, gd, od, rfl, hcd⟩ := rin_one HR1.out (HRow.out rfl)
            subst hm1
            have HCd : Hid (∀ w', RIn (fun g => g ≠ kb ∧ g ≠ bp) w' (.slice (some ⟨gd, od, none⟩) 1 c) L → w'.cell? ⟨gd, od, none⟩ = some (.int .i64 (L.getD 0 0))) := hcd
            clear hcd hg HRow HE
            as_aux_lemma =>
              go_wp2_with fail
              refine (cend_any n kb bp R1 f1 R2 f2 k _ HK1.out HL.out (by have := HN.out; omega)).mono ?_
              rintro e w2 ⟨rfl, k2, t2⟩
              rw [HZ.out]
              have T2 : Hid (Turns (F2 kb bp) w w2) := T1.out.trans t2
              have HK2 : Hid (KRg (n + 8) kb bp R1 f1 R2 f2 w2 k.endR) := k2
              have HV2 : Hid (PIn (fun g => g ≠ kb ∧ g ≠ bp) w2 (.slice va M vc) X) := HV1.out.turns t2
              have HR2 : Hid (RIn (fun g => g ≠ kb ∧ g ≠ bp) w2 _ L) := HR1.out.turns t2
              have S2 : Hid (w.heap.size ≤ w2.heap.size) := Nat.le_trans S1.out t2.size
              clear k2 t2
              go_wp2_with fail
              refine (cdrive_at (n + 8) kb bp R1 f1 R2 f2 k.endR _ X _ HK2.out HL2.out HV2.out HOk.out HLen.out (by have := HN.out; omega)).mono ?_
              rintro e w3 ⟨u, rfl, hu, k3, t3⟩
              have T3 : Hid (Turns (F2 kb bp) w w3) := T2.out.trans t3
              have HR3 : Hid (RIn (fun g => g ≠ kb ∧ g ≠ bp) w3 _ L) := HR2.out.turns t3
              have U3 : Hid (Owns w.heap.size w3 u (k.endR.drvV X)) := owns_down hu S2.out
              have HK3 : Hid (KRg (n + 30000) kb bp R1 f1 R2 f2 w3 (k.endR.drv X)) := k3.more (by omega)
              clear k3 t3 hu
              obtain hw | hw : whB X k.endR.most = false ∨ whB X k.endR.most = true := by cases whB X k.endR.most <;> simp
              · obtain ⟨e3, e4⟩ := fin_no k.endR X (isOn 235 L) hw
                rw [e3] at HX
                rw [e4]
                obtain ⟨ua, uc, rfl⟩ := own_slice U3.out
                obtain ⟨UL, hUL⟩ : ∃ UL, (k.endR.drvV X).length = UL := ⟨_, rfl⟩
                rw [hUL]
                clear hw e3 e4 hUL
                go_wp2_with fail
                refine bodyPost_ret (v := .tuple #[.slice none 0 0, .int .i64 1101]) (by simp [results, Tryz.results34, go_sem]) rfl ⟨_, by rw [HX.out], by rw [HX.out]; exact World.ownsRow_nil _ _ _ _, by rw [HX.out]; exact HK3.out, T3.out⟩
              · obtain ⟨e3, e4, e5⟩ := fin_yes k.endR X (isOn 235 L) hw
                rw [e3] at HX
                rw [e4]
                rw [e5] at U3
                obtain ⟨D, hD⟩ : ∃ D, drvL k.endR.s X k.endR.most = D := ⟨_, rfl⟩
                rw [hD] at U3 HX
                obtain ⟨ua, uc, rfl⟩ := own_slice U3.out
                obtain ⟨kd, hkd⟩ : ∃ kd, k.endR.drv X = kd := ⟨_, rfl⟩
                rw [hkd] at HK3 HX
                clear hw e3 e4 e5 hD hkd

                have cd := HCd.out _ HR3.out
                by_cases h160 : L.getD 0 0 = 160
                · have hgo : isOn 235 L = true := by unfold isOn; rw [h160]; rfl
                  rw [hgo] at HX
                  rw [h160] at cd
                  clear hgo h160
                  obtain ⟨c40', f40, k4, t4⟩ := HK3.out.goesOn true
                  have K4 : Hid (KRg (n + 30000) kb bp R1 f1 R2 f2 (w3.setCell ⟨kb, 40, none⟩ (.bool true)) { kd with goes := true }) := k4
                  have T4 : Hid (Turns (F2 kb bp) w (w3.setCell ⟨kb, 40, none⟩ (.bool true))) := T3.out.trans t4
                  have U4 : Hid (Owns w.heap.size (w3.setCell ⟨kb, 40, none⟩ (.bool true)) (.slice ua D.length uc) D) := owns_only U3 ((Only.refl kb w3).set 40 _) HLt.out.1
                  clear k4 t4
                  go_wp2_with fail
                  refine bodyPost_ret (v := .tuple #[.slice ua D.length uc, .int .i64 0]) (by simp [results, Tryz.results34, go_sem]) rfl ⟨_, by rw [HX.out], by rw [HX.out]; exact U4.out, by rw [HX.out]; exact K4.out, T4.out⟩
                · have hgo : isOn 235 L = false := by unfold isOn; rw [decide_eq_false h160]; rfl
                  rw [hgo] at HX
                  clear hgo
                  obtain ⟨z, hz⟩ : ∃ z, L.getD 0 0 = z := ⟨_, rfl⟩
                  rw [hz] at cd h160
                  have hz2 : (z == 160) = false := beq_eq_false_iff_ne.2 h160
                  clear hz
                  obtain ⟨c40', f40, k4, t4⟩ := HK3.out.goesOn false
                  have K4 : Hid (KRg (n + 30000) kb bp R1 f1 R2 f2 (w3.setCell ⟨kb, 40, none⟩ (.bool false)) { kd with goes := false }) := k4
                  have T4 : Hid (Turns (F2 kb bp) w (w3.setCell ⟨kb, 40, none⟩ (.bool false))) := T3.out.trans t4
                  have U4 : Hid (Owns w.heap.size (w3.setCell ⟨kb, 40, none⟩ (.bool false)) (.slice ua D.length uc) D) := owns_only U3 ((Only.refl kb w3).set 40 _) HLt.out.1
                  clear k4 t4
                  go_wp2_with fail
                  refine bodyPost_ret (v := .tuple #[.slice ua D.length uc, .int .i64 0]) (by simp [results, Tryz.results34, go_sem]) rfl ⟨_, by rw [HX.out], by rw [HX.out]; exact U4.out, by rw [HX.out]; exact K4.out, T4.out⟩
          · as_aux_lemma =>
            have hgo : Hid (isOn b L = false) := by unfold Hid isOn; rw [decide_eq_false hb]; rfl
            clear HRow HE
            obtain hg | hg : k.goes = false ∨ k.goes = true := by cases k.goes <;> simp
            · rw [hg] at c40
              clear hg
              go_wp2_with fail
              refine (cend_any n kb bp R1 f1 R2 f2 k _ HK1.out HL.out (by have := HN.out; omega)).mono ?_
              rintro e w2 ⟨rfl, k2, t2⟩
              rw [HZ.out]
              have T2 : Hid (Turns (F2 kb bp) w w2) := T1.out.trans t2
              have HK2 : Hid (KRg (n + 8) kb bp R1 f1 R2 f2 w2 k.endR) := k2
              have HV2 : Hid (PIn (fun g => g ≠ kb ∧ g ≠ bp) w2 (.slice va M vc) X) := HV1.out.turns t2
              have HR2 : Hid (RIn (fun g => g ≠ kb ∧ g ≠ bp) w2 _ L) := HR1.out.turns t2
              have S2 : Hid (w.heap.size ≤ w2.heap.size) := Nat.le_trans S1.out t2.size
              clear k2 t2
              go_wp2_with fail
              refine (cdrive_at (n + 8) kb bp R1 f1 R2 f2 k.endR _ X _ HK2.out HL2.out HV2.out HOk.out HLen.out (by have := HN.out; omega)).mono ?_
              rintro e w3 ⟨u, rfl, hu, k3, t3⟩
              have T3 : Hid (Turns (F2 kb bp) w w3) := T2.out.trans t3
              have HR3 : Hid (RIn (fun g => g ≠ kb ∧ g ≠ bp) w3 _ L) := HR2.out.turns t3
              have U3 : Hid (Owns w.heap.size w3 u (k.endR.drvV X)) := owns_down hu S2.out
              have HK3 : Hid (KRg (n + 30000) kb bp R1 f1 R2 f2 w3 (k.endR.drv X)) := k3.more (by omega)
              clear k3 t3 hu
              obtain hw | hw : whB X k.endR.most = false ∨ whB X k.endR.most = true := by cases whB X k.endR.most <;> simp
              · obtain ⟨e3, e4⟩ := fin_no k.endR X (isOn b L) hw
                rw [e3] at HX
                rw [e4]
                obtain ⟨ua, uc, rfl⟩ := own_slice U3.out
                obtain ⟨UL, hUL⟩ : ∃ UL, (k.endR.drvV X).length = UL := ⟨_, rfl⟩
                rw [hUL]
                clear hw e3 e4 hUL
                go_wp2_with fail
                refine bodyPost_ret (v := .tuple #[.slice none 0 0, .int .i64 1101]) (by simp [results, Tryz.results34, go_sem]) rfl ⟨_, by rw [HX.out], by rw [HX.out]; exact World.ownsRow_nil _ _ _ _, by rw [HX.out]; exact HK3.out, T3.out⟩
              · obtain ⟨e3, e4, e5⟩ := fin_yes k.endR X (isOn b L) hw
                rw [e3] at HX
                rw [e4]
                rw [e5] at U3
                obtain ⟨D, hD⟩ : ∃ D, drvL k.endR.s X k.endR.most = D := ⟨_, rfl⟩
                rw [hD] at U3 HX
                obtain ⟨ua, uc, rfl⟩ := own_slice U3.out
                obtain ⟨kd, hkd⟩ : ∃ kd, k.endR.drv X = kd := ⟨_, rfl⟩
                rw [hkd] at HK3 HX
                clear hw e3 e4 e5 hD hkd

                rw [hgo.out] at HX
                obtain ⟨c40', f40, k4, t4⟩ := HK3.out.goesOn false
                have K4 : Hid (KRg (n + 30000) kb bp R1 f1 R2 f2 (w3.setCell ⟨kb, 40, none⟩ (.bool false)) { kd with goes := false }) := k4
                have T4 : Hid (Turns (F2 kb bp) w (w3.setCell ⟨kb, 40, none⟩ (.bool false))) := T3.out.trans t4
                have U4 : Hid (Owns w.heap.size (w3.setCell ⟨kb, 40, none⟩ (.bool false)) (.slice ua D.length uc) D) := owns_only U3 ((Only.refl kb w3).set 40 _) HLt.out.1
                clear k4 t4
                go_wp2_with fail
                refine bodyPost_ret (v := .tuple #[.slice ua D.length uc, .int .i64 0]) (by simp [results, Tryz.results34, go_sem]) rfl ⟨_, by rw [HX.out], by rw [HX.out]; exact U4.out, by rw [HX.out]; exact K4.out, T4.out⟩
            · rw [hg] at c40
              clear hg
              go_wp2_with fail
              refine (cend_any n kb bp R1 f1 R2 f2 k _ HK1.out HL.out (by have := HN.out; omega)).mono ?_
              rintro e w2 ⟨rfl, k2, t2⟩
              rw [HZ.out]
              have T2 : Hid (Turns (F2 kb bp) w w2) := T1.out.trans t2
              have HK2 : Hid (KRg (n + 8) kb bp R1 f1 R2 f2 w2 k.endR) := k2
              have HV2 : Hid (PIn (fun g => g ≠ kb ∧ g ≠ bp) w2 (.slice va M vc) X) := HV1.out.turns t2
              have HR2 : Hid (RIn (fun g => g ≠ kb ∧ g ≠ bp) w2 _ L) := HR1.out.turns t2
              have S2 : Hid (w.heap.size ≤ w2.heap.size) := Nat.le_trans S1.out t2.size
              clear k2 t2
              go_wp2_with fail
              refine (cdrive_at (n + 8) kb bp R1 f1 R2 f2 k.endR _ X _ HK2.out HL2.out HV2.out HOk.out HLen.out (by have := HN.out; omega)).mono ?_
              rintro e w3 ⟨u, rfl, hu, k3, t3⟩
              have T3 : Hid (Turns (F2 kb bp) w w3) := T2.out.trans t3
              have HR3 : Hid (RIn (fun g => g ≠ kb ∧ g ≠ bp) w3 _ L) := HR2.out.turns t3
              have U3 : Hid (Owns w.heap.size w3 u (k.endR.drvV X)) := owns_down hu S2.out
              have HK3 : Hid (KRg (n + 30000) kb bp R1 f1 R2 f2 w3 (k.endR.drv X)) := k3.more (by omega)
              clear k3 t3 hu
              obtain hw | hw : whB X k.endR.most = false ∨ whB X k.endR.most = true := by cases whB X k.endR.most <;> simp
              · obtain ⟨e3, e4⟩ := fin_no k.endR X (isOn b L) hw
                rw [e3] at HX
                rw [e4]
                obtain ⟨ua, uc, rfl⟩ := own_slice U3.out
                obtain ⟨UL, hUL⟩ : ∃ UL, (k.endR.drvV X).length = UL := ⟨_, rfl⟩
                rw [hUL]
                clear hw e3 e4 hUL
                go_wp2_with fail
                refine bodyPost_ret (v := .tuple #[.slice none 0 0, .int .i64 1101]) (by simp [results, Tryz.results34, go_sem]) rfl ⟨_, by rw [HX.out], by rw [HX.out]; exact World.ownsRow_nil _ _ _ _, by rw [HX.out]; exact HK3.out, T3.out⟩
              · obtain ⟨e3, e4, e5⟩ := fin_yes k.endR X (isOn b L) hw
                rw [e3] at HX
                rw [e4]
                rw [e5] at U3
                obtain ⟨D, hD⟩ : ∃ D, drvL k.endR.s X k.endR.most = D := ⟨_, rfl⟩
                rw [hD] at U3 HX
                obtain ⟨ua, uc, rfl⟩ := own_slice U3.out
                obtain ⟨kd, hkd⟩ : ∃ kd, k.endR.drv X = kd := ⟨_, rfl⟩
                rw [hkd] at HK3 HX
                clear hw e3 e4 e5 hD hkd

                rw [hgo.out] at HX
                obtain ⟨c40', f40, k4, t4⟩ := HK3.out.goesOn false
                have K4 : Hid (KRg (n + 30000) kb bp R1 f1 R2 f2 (w3.setCell ⟨kb, 40, none⟩ (.bool false)) { kd with goes := false }) := k4
                have T4 : Hid (Turns (F2 kb bp) w (w3.setCell ⟨kb, 40, none⟩ (.bool false))) := T3.out.trans t4
                have U4 : Hid (Owns w.heap.size (w3.setCell ⟨kb, 40, none⟩ (.bool false)) (.slice ua D.length uc) D) := owns_only U3 ((Only.refl kb w3).set 40 _) HLt.out.1
                clear k4 t4
                go_wp2_with fail
                refine bodyPost_ret (v := .tuple #[.slice ua D.length uc, .int .i64 0]) (by simp [results, Tryz.results34, go_sem]) rfl ⟨_, by rw [HX.out], by rw [HX.out]; exact U4.out, by rw [HX.out]; exact K4.out, T4.out⟩
  · have HX : Hid (k.runs b at' L r = (k, [], 1101)) := by
      unfold Hid K.runs
      rw [if_pos hl]
    rw [HX.out]
    rw [hl] at c48
    clear hl
    go_enter Tryz.func34, Tryz.ntmps34
    go_wp2_with fail
    refine bodyPost_ret (v := .tuple #[.slice none 0 0, .int .i64 1101]) (by simp [results, Tryz.results34, go_sem]) rfl ⟨_, rfl, World.ownsRow_nil _ _ _ _, HK.out.more (Nat.le_add_right _ _), Turns.refl _ _⟩
theorem crun_any (n kb bp : Nat) (k : K) (b at' : Int) (a : Option Addr) (m c : Nat) (L : List Int) (r : Int) (w : World) (h : KAt n kb bp w k) (hC : Came w a m c L) (hR : RIn (fun g => g ≠ kb ∧ g ≠ bp) w (.slice a m c) L) (hm : m * 8 ≤ 140737488351232) (hn : n ≤ 999999999900000) :
    Calls Tryz.prog 34 #[.pointer (some ⟨kb, 0, none⟩), .int .i64 b, .int .i64 at', .slice a m c, .int .i64 r] w fun e w' => ∃ u, e = .returned (.tuple #[u, .int .i64 (k.runs b at' L r).2.2]) ∧ Owns w.heap.size w' u (k.runs b at' L r).2.1 ∧ KAt (n + 30000) kb bp w' (k.runs b at' L r).1 ∧ Turns (F2 kb bp) w w' := by
  obtain ⟨R1, f1, R2, f2, lv, ds, B⟩ := h
  refine (crun_rg n kb bp R1 f1 R2 f2 k b at' a m c L r w ⟨lv, ds, B⟩ hC hR hm hn).mono ?_
  rintro e w' ⟨u, h1, h2, h3, h4⟩
  exact ⟨u, h1, h2, h3.at, h4⟩
end Go.Proofs.YtjhjghakfedeeaaGreat
end
