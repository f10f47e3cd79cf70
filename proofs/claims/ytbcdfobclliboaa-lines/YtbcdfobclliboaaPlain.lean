/-
  Plain facts on bytes and texts that the walks of this seat lean on: a text's byte, a mask's byte, a text told byte by byte, what a program or an erase leaves of a byte. Nothing of the program is named here; no conditions but those of each statement.
-/
import Derived.WalkKit
import Derived.Laws.BytesArg
import Derived.Laws.IdiomStrings
import Derived.Laws.BitsAllLaws
namespace Go.Proofs.Ytbcdfobclliboaa.Plain

/-- A text's byte; 0 behind its end. -/
def ub (s : ByteArray) (i : Nat) : UInt8 := if h : i < s.size then s[i]'h else 0
theorem ub_of (s : ByteArray) (i : Nat) (h : i < s.size) : ub s i = s[i]'h := by unfold ub; rw [dif_pos h]
theorem get_ub (s : ByteArray) : ∀ (n : Nat) (h : n < s.size), (s[n]'h).toNat = (ub s n).toNat := fun n h => by rw [ub_of s n h]

/-- A text told byte by byte. -/
def tab (n : Nat) (f : Nat → UInt8) : ByteArray := ⟨Array.ofFn (n := n) fun i => f i.1⟩
theorem tab_size (n : Nat) (f : Nat → UInt8) : (tab n f).size = n := by simp [tab, ByteArray.size]
theorem ub_tab (n : Nat) (f : Nat → UInt8) (i : Nat) (h : i < n) : ub (tab n f) i = f i := by
  rw [ub_of _ _ (by rw [tab_size]; exact h)]
  exact Array.getElem_ofFn (f := fun i : Fin n => f i.1) (by simpa using h)
theorem ext_ub {a b : ByteArray} (hs : a.size = b.size) (h : ∀ i, i < a.size → ub a i = ub b i) : a = b := by
  obtain ⟨x⟩ := a
  obtain ⟨y⟩ := b
  congr 1
  refine Array.ext hs fun i h1 h2 => ?_
  have := h i h1
  rw [ub_of _ _ h1, ub_of _ _ h2] at this
  exact this
theorem tab_congr {n : Nat} {f g : Nat → UInt8} (h : ∀ i, i < n → f i = g i) : tab n f = tab n g :=
  ext_ub (by rw [tab_size, tab_size]) fun i hi => by rw [tab_size] at hi; rw [ub_tab _ _ _ hi, ub_tab _ _ _ hi, h i hi]
theorem tab_ub (a : ByteArray) : tab a.size (ub a) = a := ext_ub (tab_size _ _) fun i hi => by rw [tab_size] at hi; rw [ub_tab _ _ _ hi]

theorem isEmpty_iff (s : ByteArray) : s.toList.isEmpty = decide (s.size = 0) := by
  rw [ByteArray.toList_eq]
  obtain ⟨⟨l⟩⟩ := s
  cases l with
  | nil => rfl
  | cons x xs => rfl
theorem eq_iff (a b : ByteArray) : (a.toList == b.toList) = decide (a = b) := by
  rw [ByteArray.toList_eq, ByteArray.toList_eq]
  by_cases h : a = b
  · subst h; simp
  · have : ¬ a.data.toList = b.data.toList := fun h' => h (by obtain ⟨⟨x⟩⟩ := a; obtain ⟨⟨y⟩⟩ := b; simp at h'; rw [h'])
    rw [decide_eq_false h]
    simpa using this

/-- The bytes of a tab, as numbers, make the text. -/
theorem strOfNums_tab (n : Nat) (f : Nat → UInt8) (xs : List Int) (hl : xs.length = n) (hx : ∀ i, i < n → xs.getD i 0 = ((f i).toNat : Int)) : strOfNums xs = tab n f := by
  refine ext_ub (by rw [strOfNums_size, tab_size, hl]) fun i hi => ?_
  rw [strOfNums_size] at hi
  rw [ub_of _ _ (by rw [strOfNums_size]; exact hi), ub_tab _ _ _ (by omega)]
  have := hx i (by omega)
  rw [List.getD_eq_getElem?_getD, List.getElem?_eq_getElem hi, Option.getD_some] at this
  refine Eq.trans (List.getElem_map (fun n : Int => UInt8.ofNat n.toNat)) ?_
  rw [this]
  simp

/-- The mask's byte at the i-th byte of what is cut. -/
def mb (m : ByteArray) (i : Nat) : UInt8 := if m.size = 0 then 0 else ub m (i % m.size)
theorem mb_zero (m : ByteArray) (i : Nat) (h : m.size = 0) : mb m i = 0 := by simp [mb, h]
theorem mb_pos (m : ByteArray) (i : Nat) (h : 0 < m.size) : mb m i = ub m (i % m.size) := by unfold mb; rw [if_neg (by omega)]
/-- What a program leaves of a byte x: d is programmed, of what it clears the mask's bits. -/
def pb (x d m : UInt8) : UInt8 := x &&& ~~~(~~~d &&& m)
/-- What an erase leaves of a byte x. -/
def eb (x m : UInt8) : UInt8 := x ||| m
/-- A program, told byte by byte. -/
def prog (a : ByteArray) (k : Nat) (d m : ByteArray) : ByteArray := tab a.size fun j => if k ≤ j ∧ j < k + d.size then pb (ub a j) (ub d (j - k)) (mb m (j - k)) else ub a j
/-- An erase of sector s, told byte by byte. -/
def erase (a : ByteArray) (s : Nat) (m : ByteArray) : ByteArray := tab a.size fun j => if s * 512 ≤ j ∧ j < s * 512 + 512 then eb (ub a j) (mb m (j - s * 512)) else ub a j
/-- So many bytes 255. -/
def full (n : Nat) : ByteArray := tab n fun _ => 255
/-- The text over and over, in 4096 bytes. -/
def wide (s : ByteArray) : ByteArray := tab 4096 fun j => if s.size = 0 then 255 else ub s (j % s.size)

/- The walk's spelling of the bytes' operations. -/
theorem not_u8 (d : UInt8) : bits .xor .u8 255 (d.toNat : Int) = ((~~~d).toNat : Int) := by
  have := d.toNat_lt
  rw [show (255 : Int) = ((255 : Nat) : Int) from rfl, u8_xor_nat 255 d.toNat (by omega) (by omega)]
  congr 1
theorem not_u8' (d : UInt8) : bits .xor .u8 (-1) (d.toNat : Int) = ((~~~d).toNat : Int) := by
  rw [← not_u8]; rfl
theorem not_toNat (y : UInt8) : (~~~y).toNat = 255 - y.toNat := by
  show (~~~y.toBitVec).toNat = _
  rw [BitVec.toNat_not]
  rfl
theorem and_u8 (x y : UInt8) : bits .and .u8 (x.toNat : Int) (y.toNat : Int) = ((x &&& y).toNat : Int) := by
  have := x.toNat_lt
  have := y.toNat_lt
  rw [u8_and_nat _ _ (by omega) (by omega), UInt8.toNat_and]
theorem or_u8 (x y : UInt8) : bits .or .u8 (x.toNat : Int) (y.toNat : Int) = ((x ||| y).toNat : Int) := by
  have := x.toNat_lt
  have := y.toNat_lt
  rw [u8_or_nat _ _ (by omega) (by omega), UInt8.toNat_or]
theorem andNot_u8 (x y : UInt8) : bits .andNot .u8 (x.toNat : Int) (y.toNat : Int) = ((x &&& ~~~y).toNat : Int) := by
  have := x.toNat_lt
  have := y.toNat_lt
  rw [u8_andNot_nat _ _ (by omega) (by omega), UInt8.toNat_and, not_toNat]
theorem pb_walk (x d m : UInt8) : bits .andNot .u8 (x.toNat : Int) (bits .and .u8 (bits .xor .u8 IntKind.u8.max (d.toNat : Int)) (m.toNat : Int)) = ((pb x d m).toNat : Int) := by
  rw [show IntKind.u8.max = 255 from rfl, not_u8, and_u8, andNot_u8]; rfl
theorem eb_walk (x m : UInt8) : bits .or .u8 (x.toNat : Int) (m.toNat : Int) = ((eb x m).toNat : Int) := by rw [or_u8]; rfl
theorem prog_step (a d m : ByteArray) (A k j : Nat) : (if j = A + k then pb (ub a (A + k)) (ub d k) (mb m k) else if A ≤ j ∧ j < A + k then pb (ub a j) (ub d (j - A)) (mb m (j - A)) else ub a j) =
    if A ≤ j ∧ j < A + (k + 1) then pb (ub a j) (ub d (j - A)) (mb m (j - A)) else ub a j := by
  by_cases e : j = A + k
  · subst e
    rw [if_pos rfl, if_pos (by omega), show A + k - A = k by omega]
  · rw [if_neg e]
    by_cases h : A ≤ j ∧ j < A + k
    · rw [if_pos h, if_pos (by omega)]
    · rw [if_neg h, if_neg (by omega)]
theorem erase_step (a m : ByteArray) (A k j : Nat) : (if j = A + k then eb (ub a (A + k)) (mb m k) else if A ≤ j ∧ j < A + k then eb (ub a j) (mb m (j - A)) else ub a j) =
    if A ≤ j ∧ j < A + (k + 1) then eb (ub a j) (mb m (j - A)) else ub a j := by
  by_cases e : j = A + k
  · subst e
    rw [if_pos rfl, if_pos (by omega), show A + k - A = k by omega]
  · rw [if_neg e]
    by_cases h : A ≤ j ∧ j < A + k
    · rw [if_pos h, if_pos (by omega)]
    · rw [if_neg h, if_neg (by omega)]
end Go.Proofs.Ytbcdfobclliboaa.Plain
