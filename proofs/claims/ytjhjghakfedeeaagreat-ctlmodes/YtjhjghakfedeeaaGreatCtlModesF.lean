/-
  What the law on the sorts of reads wants: plain facts. Nothing of the program is named.
-/
import Derived.Test.YtjhjghakfedeeaaGreatCtlLaws
namespace Go.Proofs.YtjhjghakfedeeaaGreat
open Go.RowKit Plain
set_option linter.unusedVariables false

theorem quads_off {t : St} {A : ByteArray} {g : Bool} (h : t.Quads A g) : ({ t with goes := false } : St).Quads A false := quads_goes h false
theorem modes_read {t : St} {A : ByteArray} {g : Bool} (h : t.Quads A g) (c : Nat) (md : Bool) (F m : Nat) (hF : F < 4096) (hm : m ≤ 512) : ∃ t' g' c' md', t'.Quads A g' ∧ (kq t c g md).runs 3 F [] m = (kq t' c' g' md', numI (bytesOf A F m), 0) := by
  cases g
  · exact ⟨t, false, _, md, h, kq_read (quads_rest h) h.A c md F m hF hm⟩
  · refine ⟨{ t with goes := false }, false, c + 8 + (32 + 8 * m), true, quads_off h, ?_⟩
    rw [kq_quit h c md (by decide) (row_read F m hF hm).2]
    exact kq_read (quads_rest (quads_off h)) h.A (c + 8) true F m hF hm
theorem modes_out {t : St} {A : ByteArray} {g : Bool} (h : t.Quads A g) (c : Nat) (md : Bool) (F m : Nat) (hF : F < 4096) (hm : m ≤ 512) : ∃ t' g' c' md', t'.Quads A g' ∧ (kq t c g md).runs 107 F [] m = (kq t' c' g' md', numI (bytesOf A F m), 0) := by
  cases g
  · exact ⟨t, false, _, md, h, kq_quadOut (quads_rest h) h.quad h.A c md F m hF hm⟩
  · refine ⟨{ t with goes := false }, false, c + 8 + (40 + 2 * m), true, quads_off h, ?_⟩
    rw [kq_quit h c md (by decide) (row_quadOut F m hF hm).2]
    exact kq_quadOut (quads_rest (quads_off h)) h.quad h.A (c + 8) true F m hF hm
theorem modes_io {t : St} {A : ByteArray} {g : Bool} (h : t.Quads A g) (c : Nat) (md : Bool) (F x m : Nat) (hF : F < 4096) (hx : x < 256) (hm : m ≤ 512) : ∃ t' g' c' md', t'.Quads A g' ∧ (kq t c g md).runs 235 F [(x : Int)] m = (kq t' c' g' md', numI (bytesOf A F m), 0) := by
  cases g
  · exact ⟨_, _, _, md, quads_goes h (decide (x = 160)), kq_io0 h c md F x m hF hx hm⟩
  · exact ⟨_, _, _, md, quads_goes h (decide (x = 160)), kq_io1 h c md F x m hF hx hm⟩
theorem modes_V (A : ByteArray) (F m : Nat) : (numI (bytesOf A F m)).length = m := by rw [numI_length, bytesOf_length]
/-- A byte of the row against the chip's own. -/
theorem modes_at (A : ByteArray) (hA : A.size = 4096) (F m l : Nat) (hF : F < 4096) (hl : l < m) (hm : m ≤ 32) : ∃ S tt X : Nat, (F : Int) + (l : Int) = (S : Int) ∧ IntKind.i64.wrap (S : Int) = (S : Int) ∧ (S : Int) % 4096 = (tt : Int) ∧ (numI (bytesOf A F m)).getD l 0 = (X : Int) ∧ (wrap64 (X : Int) = (X : Int) ∧ IntKind.i64.wrap (X : Int) = (X : Int)) ∧ ∀ w : World, (Instr.index 9 (.string A) (.int .i64 (tt : Int))).run Tryz.prog w = .ok (.int .u8 (X : Int)) w := by
  obtain ⟨X, HX, -, h2, h3⟩ := byte_at A ((F + l) % 4096) (by rw [hA]; exact Nat.mod_lt _ (by decide))
  exact ⟨F + l, (F + l) % 4096, X, by omega, IntWalk.i64_in _ (by omega), by omega, by rw [bytesOf_get A F m l hl, hA, HX.out], h2, h3⟩
end Go.Proofs.YtjhjghakfedeeaaGreat
