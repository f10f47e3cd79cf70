/-
  The taker of package sfdp, call by call: what it leaves of a text, what it tells, whether it is wrong for good; a number of bytes, the lowest first. No conditions but those of each statement.
-/
import Derived.Test.YtgibpmjgcjcghaaNumber
namespace Go.Proofs.Ytgibpmjgcjcghaa
open Go.RowKit Plain
set_option linter.unusedVariables false

/-- A taker in block b: what is left of its text, whether it is wrong. -/
def Tk (w : World) (b : Nat) (r : ByteArray) (x : Bool) : Prop :=
  w.cell? ⟨b, 0, none⟩ = some (.string r) ∧ w.cell? ⟨b, 1, none⟩ = some (.bool x) ∧ w.frozen? ⟨b, 0, none⟩ = false ∧ w.frozen? ⟨b, 1, none⟩ = false
theorem Tk.set0 {w : World} {b : Nat} {r : ByteArray} {x : Bool} (h : Tk w b r x) (q : ByteArray) : Tk (w.setCell ⟨b, 0, none⟩ (.string q)) b q x :=
  ⟨World.cell?_setCell_same w _ _ h.1, by rw [World.cell?_setCell_other w _ _ _ (by intro e; injection e with _ e2 _; cases e2)]; exact h.2.1, by rw [World.frozen?_setCell]; exact h.2.2.1, by rw [World.frozen?_setCell]; exact h.2.2.2⟩
theorem Tk.set1 {w : World} {b : Nat} {r : ByteArray} {x : Bool} (h : Tk w b r x) (y : Bool) : Tk (w.setCell ⟨b, 1, none⟩ (.bool y)) b r y :=
  ⟨by rw [World.cell?_setCell_other w _ _ _ (by intro e; injection e with _ e2 _; cases e2)]; exact h.1, World.cell?_setCell_same w _ _ h.2.1, by rw [World.frozen?_setCell]; exact h.2.2.1, by rw [World.frozen?_setCell]; exact h.2.2.2⟩
theorem below_set (w : World) (b o : Nat) (v : Value) : Below b w (w.setCell ⟨b, o, none⟩ v) := (Below.refl b w).setCell (p := ⟨b, o, none⟩) (Nat.le_refl _) v
/-- What the taker takes of n bytes, and what it leaves. -/
def tkP (r : ByteArray) (n : Nat) : ByteArray := if r.size < n then ByteArray.empty else r.extract 0 n
def tkR (r : ByteArray) (n : Nat) : ByteArray := if r.size < n then r else r.extract n r.size
def tkX (r : ByteArray) (n : Nat) : Bool := decide (r.size < n)
theorem tkP_size (r : ByteArray) (n : Nat) : (tkP r n).size ≤ n := by
  unfold tkP; split
  · exact Nat.zero_le _
  · rw [ByteArray.size_extract]; omega
theorem tkR_size (r : ByteArray) (n : Nat) : (tkR r n).size ≤ r.size := by
  unfold tkR; split
  · exact Nat.le_refl _
  · rw [ByteArray.size_extract]; omega

theorem take_any (b : Nat) (r : ByteArray) (x : Bool) (n : Nat) (w : World) (h : Tk w b r x) (hm : n ≤ 1000) (hr : r.size ≤ maxLen) :
    Calls Try.prog 24 #[.pointer (some ⟨b, 0, none⟩), .int .i64 (n : Int)] w fun e w' => e = .returned (.string (tkP r n)) ∧ Tk w' b (tkR r n) (x || tkX r n) ∧ Below b w w' := by
  have HT : Hid (Tk w b r x) := h
  obtain ⟨h0, h1, h2, h3⟩ := h
  unfold maxLen at hr
  by_cases hn : r.size < n
  · have HP : Hid (tkP r n = ByteArray.empty) := by unfold tkP; exact if_pos hn
    have HR : Hid (tkR r n = r) := by unfold tkR; exact if_pos hn
    have HX : Hid (tkX r n = true) := by unfold tkX; exact decide_eq_true hn
    go_enter Try.func24, Try.ntmps24
    go_wp2
    go_ret
    exact ⟨by rw [HP.out]; rfl, by rw [HR.out, HX.out, Bool.or_true]; exact HT.out.set1 true, below_set _ _ _ _⟩
  · have HP : Hid (tkP r n = r.extract 0 n) := by unfold tkP; exact if_neg hn
    have HR : Hid (tkR r n = r.extract n r.size) := by unfold tkR; exact if_neg hn
    have HX : Hid (tkX r n = false) := by unfold tkX; exact decide_eq_false hn
    go_enter Try.func24, Try.ntmps24
    go_wp2
    go_ret
    exact ⟨by rw [HP.out]; rfl, by rw [HR.out, HX.out, Bool.or_false]; exact HT.out.set0 _, below_set _ _ _ _⟩

/-- Is the text taken not h? -/
def tkD (r h : ByteArray) : Bool := tkX r h.size || decide (tkP r h.size ≠ h)
theorem or_true3 (x y : Bool) : (x || (y || true)) = true := by simp
theorem same_any (b : Nat) (r h : ByteArray) (x : Bool) (w : World) (ht : Tk w b r x) (hm : h.size ≤ 1000) (hr : r.size ≤ maxLen) :
    Calls Try.prog 19 #[.pointer (some ⟨b, 0, none⟩), .string h] w fun e w' => e = .returned (.tuple #[]) ∧ Tk w' b (tkR r h.size) (x || tkD r h) ∧ Below b w w' := by
  have HT : Hid (Tk w b r x) := ht
  clear ht
  have heq := eq_iff (tkP r h.size) h
  by_cases hd : tkP r h.size = h
  · have HD : Hid (tkD r h = tkX r h.size) := by unfold tkD; simp [Hid, hd]
    rw [decide_eq_true hd] at heq
    clear hd
    go_enter Try.func19, Try.ntmps19
    go_wp2_with fail
    refine (take_any b r x h.size w HT.out hm hr).mono ?_
    rintro e w1 ⟨rfl, t1, b1⟩
    go_wp2
    go_end0
    exact ⟨rfl, by rw [HD.out]; exact t1, b1⟩
  · have HD : Hid (tkD r h = (tkX r h.size || true)) := by unfold tkD; simp [Hid, hd]
    rw [decide_eq_false hd] at heq
    clear hd
    go_enter Try.func19, Try.ntmps19
    go_wp2_with fail
    refine (take_any b r x h.size w HT.out hm hr).mono ?_
    rintro e w1 ⟨rfl, t1, b1⟩
    have T1 : Hid (Tk w1 b (tkR r h.size) (x || tkX r h.size)) := t1
    obtain ⟨h0, h1, h2, h3⟩ := t1
    go_wp2
    go_end0
    exact ⟨rfl, by rw [HD.out, or_true3]; exact T1.out.set1 true, b1.trans (below_set _ _ _ _)⟩

/-- k bytes from i on as a number, the lowest first. -/
def numF (p : ByteArray) : Nat → Nat → Nat
  | 0, _ => 0
  | k + 1, i => (ub p i).toNat + 256 * numF p k (i + 1)
def numOf (p : ByteArray) : Nat := numF p p.size 0
theorem numF_lt (p : ByteArray) (k i : Nat) : numF p k i < 256 ^ k := by
  induction k generalizing i with
  | zero => exact Nat.zero_lt_one
  | succ k ih =>
    have := ih (i + 1)
    have := (ub p i).toNat_lt
    rw [numF, Nat.pow_succ]
    omega
theorem numF_le (p : ByteArray) (k i : Nat) (h : k ≤ 4) : numF p k i < 4294967296 :=
  Nat.lt_of_lt_of_le (numF_lt p k i) (Nat.pow_le_pow_right (by decide) h)
theorem or_256 (x y : Nat) (hx : x < 4294967296) (hy : y < 256) : bits .or .i64 ((x : Int) * 256) (y : Int) = ((y + 256 * x : Nat) : Int) := by
  rw [show (256 : Int) = 2 ^ 8 from rfl, or_add (x : Int) (y : Int) 8 (by omega) (by omega) (by omega) (by omega)]
  omega
set_option maxHeartbeats 400000 in
theorem refNumber_any (p : ByteArray) (w : World) (hp : p.size ≤ 4) :
    Calls Try.prog 22 #[.string p] w fun e w' => e = .returned (.int .i64 (numOf p : Int)) ∧ w = w' := by
  have hg := get_ub p
  go_enter Try.func22, Try.ntmps22
  go_wp2
  go_loopw [3, 4] (fun u v wr => ∃ (j : Nat) (i : Int) (x : Nat), j ≤ p.size ∧ Hid (i = (j : Int) - 1) ∧ v = .int .i64 i ∧ u = .int .i64 (x : Int) ∧ Hid (x = numF p (p.size - j) j) ∧ wr = w) (fun _ v _ => (intOf v + 1).toNat)
  case atStart => exact ⟨p.size, _, 0, Nat.le_refl _, rfl, rfl, rfl, by rw [Hid, Nat.sub_self]; rfl, rfl⟩
  case round =>
    obtain ⟨j, i, x, hj, Hi, rfl, rfl, Hx, rfl⟩ := hrel
    match j, hj, Hi, Hx with
    | 0, hj, Hi, Hx =>
      obtain rfl : i = -1 := by have := Hi.out; omega
      have Hz : Hid (x = numOf p) := Hx
      go_wp2
      go_ret
      exact ⟨by rw [Hz.out]; rfl, rfl⟩
    | m + 1, hj, Hi, Hx =>
      obtain rfl : i = (m : Int) := by have := Hi.out; omega
      have hx : x < 4294967296 := by rw [Hx.out]; exact numF_le _ _ _ (by omega)
      have hb := (ub p m).toNat_lt
      have ho := or_256 x (ub p m).toNat hx hb
      have hwr : wrap64 ((ub p m).toNat : Int) = ((ub p m).toNat : Int) := IntWalk.wrap64_in _ (by omega)
      have hsh : wrap64 ((x : Int) * 256) = (x : Int) * 256 := IntWalk.wrap64_in _ (by omega)
      have HN : Hid ((ub p m).toNat + 256 * x = numF p (p.size - m) m) := by
        rw [Hid, show p.size - m = (p.size - (m + 1)) + 1 by omega, numF, Hx.out]
      go_wp2
      go_roundw
      case rel => exact ⟨m, (m : Int) - 1, (ub p m).toNat + 256 * x, by omega, rfl, rfl, rfl, HN, trivial⟩
      case measure => simp [intOf]

/-- The number that the taker takes. -/
def tkN (r : ByteArray) : Nat := numOf (tkP r 4)
def tkM (r : ByteArray) : Bool := tkX r 4 || !mayB (tkN r : Int)
theorem tkN_lt (r : ByteArray) : tkN r < 4294967296 := numF_le _ _ _ (tkP_size r 4)
set_option maxHeartbeats 400000 in
theorem number_any (b : Nat) (r : ByteArray) (x : Bool) (w : World) (ht : Tk w b r x) (hr : r.size ≤ maxLen) :
    Calls Try.prog 20 #[.pointer (some ⟨b, 0, none⟩)] w fun e w' => e = .returned (.int .i64 (tkN r : Int)) ∧ Tk w' b (tkR r 4) (x || tkM r) ∧ Below b w w' := by
  have HT : Hid (Tk w b r x) := ht
  clear ht
  go_enter Try.func20, Try.ntmps20
  go_wp2_with fail
  refine (take_any b r x 4 w HT.out (by decide) hr).mono ?_
  rintro e w1 ⟨rfl, t1, b1⟩
  have T1 : Hid (Tk w1 b (tkR r 4) (x || tkX r 4)) := t1
  have B1 : Hid (Below b w w1) := b1
  have HM : Hid (tkM r = (tkX r 4 || !mayB (tkN r : Int))) := rfl
  have HN0 : Hid (tkN r = numOf (tkP r 4)) := rfl
  have hp := tkP_size r 4
  generalize tkP r 4 = p at *
  clear t1 b1
  have hg := get_ub p
  go_wp2_with fail
  go_loopw [4, 5] (fun u v wr => ∃ (j : Nat) (i : Int) (x : Nat), j ≤ p.size ∧ Hid (i = (j : Int) - 1) ∧ v = .int .i64 i ∧ u = .int .i64 (x : Int) ∧ Hid (x = numF p (p.size - j) j) ∧ wr = w1) (fun _ v _ => (intOf v + 1).toNat)
  case atStart => exact ⟨p.size, _, 0, Nat.le_refl _, rfl, rfl, rfl, by rw [Hid, Nat.sub_self]; rfl, rfl⟩
  case round =>
    obtain ⟨j, i, q, hj, Hi, rfl, rfl, Hx, rfl⟩ := hrel
    match j, hj, Hi, Hx with
    | 0, hj, Hi, Hx =>
      obtain rfl : i = -1 := by have := Hi.out; omega
      obtain rfl : q = tkN r := by rw [HN0.out]; exact Hx.out
      clear Hx
      cases hmy : mayB (tkN r : Int)
      · obtain ⟨h0, h1, h2, h3⟩ := T1.out
        go_wp2_with fail
        refine (may_any _ _).mono ?_
        rintro e w' ⟨rfl, rfl⟩
        rw [hmy]
        go_wp2
        go_ret
        exact ⟨rfl, by rw [HM.out, hmy, Bool.not_false, or_true3]; exact T1.out.set1 true, B1.out.trans (below_set _ _ _ _)⟩
      · go_wp2_with fail
        refine (may_any _ _).mono ?_
        rintro e w' ⟨rfl, rfl⟩
        rw [hmy]
        go_wp2
        go_ret
        exact ⟨rfl, by rw [HM.out, hmy, Bool.not_true, Bool.or_false]; exact T1.out, B1.out⟩
    | m + 1, hj, Hi, Hx =>
      obtain rfl : i = (m : Int) := by have := Hi.out; omega
      have hx : q < 4294967296 := by rw [Hx.out]; exact numF_le _ _ _ (by omega)
      have hb := (ub p m).toNat_lt
      have ho := or_256 q (ub p m).toNat hx hb
      have hwr : wrap64 ((ub p m).toNat : Int) = ((ub p m).toNat : Int) := IntWalk.wrap64_in _ (by omega)
      have hsh : wrap64 ((q : Int) * 256) = (q : Int) * 256 := IntWalk.wrap64_in _ (by omega)
      have HN : Hid ((ub p m).toNat + 256 * q = numF p (p.size - m) m) := by
        rw [Hid, show p.size - m = (p.size - (m + 1)) + 1 by omega, numF, Hx.out]
      go_wp2
      go_roundw
      case rel => exact ⟨m, (m : Int) - 1, (ub p m).toNat + 256 * q, by omega, rfl, rfl, rfl, HN, trivial⟩
      case measure => simp [intOf]

theorem whole_any (b : Nat) (r : ByteArray) (x : Bool) (w : World) (ht : Tk w b r x) :
    Calls Try.prog 21 #[.pointer (some ⟨b, 0, none⟩)] w fun e w' => e = .returned (.bool (!x && decide (r.size = 0))) ∧ w = w' := by
  obtain ⟨h0, h1, h2, h3⟩ := ht
  have he := isEmpty_iff r
  cases x
  · by_cases h : r.size = 0
    · rw [decide_eq_true h] at he ⊢
      go_enter Try.func21, Try.ntmps21
      go_wp2
      go_ret
      exact ⟨rfl, rfl⟩
    · rw [decide_eq_false h] at he ⊢
      go_enter Try.func21, Try.ntmps21
      go_wp2
      go_ret
      exact ⟨rfl, rfl⟩
  · go_enter Try.func21, Try.ntmps21
    go_wp2
    go_ret
    exact ⟨rfl, rfl⟩
end Go.Proofs.Ytgibpmjgcjcghaa
