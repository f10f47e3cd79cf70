/-
  The document's own NewCache, the laws' CopyCache, each by a contract. Conditions: those of each statement.
-/
import Derived.Test.YtbcdfobclliboaaMake
namespace Go.Proofs.Ytbcdfobclliboaa
open Go.RowKit Plain
set_option linter.unusedVariables false

theorem Kp.more_at {w : World} {rb kb : Nat} {x : Int} {u1 u2 : Value} {P : List Int} {Q : List ByteArray} {z z' : World} (h : Kp w rb kb u1 u2 x P Q z) (y : Int) (g c n : Nat) (hn : n = P.length + 1)
    (ho : z'.ownsRow w.heap.size 3 1 (.slice (some ⟨g, 0, none⟩) n c) n (ints P ++ [.int .i64 y])) (hg : z.grownBy z' u1.ownBlock) :
    Kp w rb kb (.slice (some ⟨g, 0, none⟩) n c) u2 x (P ++ [y]) Q (z'.setCell ⟨kb, 0, none⟩ (.slice (some ⟨g, 0, none⟩) n c)) := by
  subst hn
  have e1 : ints (P ++ [y]) = ints P ++ [.int .i64 y] := by simp
  have k2 : Blk z' kb 25 [u1, u2, .int .i64 x] := h.kept.grown hg (h.at'.apart h.kept (by decide))
  have o1 : OV w.heap.size 3 z' (.slice (some ⟨g, 0, none⟩) (P.length + 1) c) (ints (P ++ [y])) := by
    unfold OV
    rw [e1, show (ints P ++ [Value.int .i64 y]).length = P.length + 1 by simp]
    exact ho
  have o2 : OV w.heap.size 9 z' u2 (txts Q) := World.ownsRow.kept h.text hg (h.at'.apart2 h.text (by decide))
  refine ⟨(h.res.grown hg (h.at'.apart h.res (by decide))).other _ _ _ h.ne, k2.set 0 _, o1.set_other _ _ (o1.apart k2 (by decide)), o2.set_other _ _ (o2.apart k2 (by decide)), h.hr, h.hk, h.ne, ?_⟩
  exact (h.old.grown hg h.old.size fun k hk => (h.at'.lt k hk).1).setCell (by exact h.hk) _
theorem Kp.more_text {w : World} {rb kb : Nat} {x : Int} {u1 u2 : Value} {P : List Int} {Q : List ByteArray} {z z' : World} (h : Kp w rb kb u1 u2 x P Q z) (y : ByteArray) (g c n : Nat) (hn : n = Q.length + 1)
    (ho : z'.ownsRow w.heap.size 9 1 (.slice (some ⟨g, 0, none⟩) n c) n (txts Q ++ [.string y])) (hg : z.grownBy z' u2.ownBlock) :
    Kp w rb kb u1 (.slice (some ⟨g, 0, none⟩) n c) x P (Q ++ [y]) (z'.setCell ⟨kb, 1, none⟩ (.slice (some ⟨g, 0, none⟩) n c)) := by
  subst hn
  have e1 : txts (Q ++ [y]) = txts Q ++ [.string y] := by simp
  have k2 : Blk z' kb 25 [u1, u2, .int .i64 x] := h.kept.grown hg (h.text.apart h.kept (by decide))
  have o1 : OV w.heap.size 9 z' (.slice (some ⟨g, 0, none⟩) (Q.length + 1) c) (txts (Q ++ [y])) := by
    unfold OV
    rw [e1, show (txts Q ++ [Value.string y]).length = Q.length + 1 by simp]
    exact ho
  have o2 : OV w.heap.size 3 z' u1 (ints P) := World.ownsRow.kept h.at' hg (h.text.apart2 h.at' (by decide))
  refine ⟨(h.res.grown hg (h.text.apart h.res (by decide))).other _ _ _ h.ne, k2.set 1 _, o2.set_other _ _ (o2.apart k2 (by decide)), o1.set_other _ _ (o1.apart k2 (by decide)), h.hr, h.hk, h.ne, ?_⟩
  exact (h.old.grown hg h.old.size fun k hk => (h.text.lt k hk).1).setCell (by exact h.hk) _
/-- The answer's place filled: what a call ends with. -/
theorem Kp.fill {w : World} {rb kb : Nat} {x : Int} {u1 u2 : Value} {P : List Int} {Q : List ByteArray} {z : World} (h : Kp w rb kb u1 u2 x P Q z) :
    Blk (((z.setCell ⟨rb, 0, none⟩ u1).setCell ⟨rb, 1, none⟩ u2).setCell ⟨rb, 2, none⟩ (.int .i64 x)) rb 25 [u1, u2, .int .i64 x] ∧
    CO w.heap.size (((z.setCell ⟨rb, 0, none⟩ u1).setCell ⟨rb, 1, none⟩ u2).setCell ⟨rb, 2, none⟩ (.int .i64 x)) (.agg #[u1, u2, .int .i64 x]) P Q x ∧
    Below w.heap.size w (((z.setCell ⟨rb, 0, none⟩ u1).setCell ⟨rb, 1, none⟩ u2).setCell ⟨rb, 2, none⟩ (.int .i64 x)) := by
  have p1 := h.at'.apart h.res (by decide)
  have p2 := h.text.apart h.res (by decide)
  exact ⟨((h.res.set 0 u1).set 1 u2).set 2 (.int .i64 x), ⟨u1, u2, rfl, ((h.at'.set_other 0 u1 p1).set_other 1 u2 p1).set_other 2 _ p1, ((h.text.set_other 0 u1 p2).set_other 1 u2 p2).set_other 2 _ p2⟩,
    ((h.old.setCell (by exact h.hr) _).setCell (by exact h.hr) _).setCell (by exact h.hr) _⟩

set_option maxRecDepth 100000 in
set_option maxHeartbeats 4000000 in
theorem refNew_any (w : World) :
    Calls Try.prog 18 #[] w fun e w' => ∃ q1 n1 p1 q2 n2 p2, e = .returned (.agg #[.slice q1 n1 p1, .slice q2 n2 p2, .int .i64 0]) ∧ CO w.heap.size w' (.agg #[.slice q1 n1 p1, .slice q2 n2 p2, .int .i64 0]) [-1, -1] [ByteArray.empty, ByteArray.empty] 0 ∧ Below w.heap.size w w' := by
  have HK0 : Hid (Kp w w.heap.size (w.heap.size + 1) (.slice none 0 0) (.slice none 0 0) 0 [] [] ((w.alloc (.cells #[.slice none 0 0, .slice none 0 0, .int .i64 0] 25)).alloc (.cells #[.slice none 0 0, .slice none 0 0, .int .i64 0] 25))) := by
    have h1 := (Blk.new w 25 [.slice none 0 0, .slice none 0 0, .int .i64 0] _ rfl).alloc (.cells #[.slice none 0 0, .slice none 0 0, .int .i64 0] 25)
    have h2 := Blk.new (w.alloc (.cells #[.slice none 0 0, .slice none 0 0, .int .i64 0] 25)) 25 [.slice none 0 0, .slice none 0 0, .int .i64 0] _ rfl
    rw [show (w.alloc (.cells #[.slice none 0 0, .slice none 0 0, .int .i64 0] 25)).heap.size = w.heap.size + 1 by simp] at h2
    exact ⟨h1, h2, World.ownsRow_nil _ _ _ _, World.ownsRow_nil _ _ _ _, Nat.le_refl _, by omega, by omega, below_then (below_new _ _) (below_new _ _)⟩
  go_enter Try.func18, Try.ntmps18
  go_upto_region 2 with fail
  generalize (w.alloc (.cells #[.slice none 0 0, .slice none 0 0, .int .i64 0] 25)).alloc (.cells #[.slice none 0 0, .slice none 0 0, .int .i64 0] 25) = W at HK0 ⊢
  go_wp2_with fail
  go_loopw [2] (fun i wr => ∃ (k : Nat) (u1 u2 : Value), k ≤ 2 ∧ i = .int .i64 k ∧ Hid (Kp w w.heap.size (w.heap.size + 1) u1 u2 0 (List.replicate k (-1)) (List.replicate k ByteArray.empty) wr)) (fun i _ => 2 - (intOf i).toNat)
  case atStart => exact ⟨0, _, _, by omega, rfl, HK0.out⟩
  case round =>
    obtain ⟨k, u1, u2, hk, rfl, HK⟩ := hrel
    clear HK0
    by_cases hlt : k < 2
    · obtain ⟨i3, hi3, h30, h31, h32⟩ := info_parts info3
      obtain ⟨i9, hi9, h90, h91, h92⟩ := info_parts info9
      have hA : (ints (List.replicate k (-1))).length = k := by simp
      have hT : (txts (List.replicate k ByteArray.empty)).length = k := by simp
      have HX1 : Hid (List.replicate (k + 1) (-1 : Int) = List.replicate k (-1) ++ [-1]) := List.replicate_succ'
      have HX2 : Hid (List.replicate (k + 1) ByteArray.empty = List.replicate k ByteArray.empty ++ [ByteArray.empty]) := List.replicate_succ'
      obtain ⟨I, HI⟩ : ∃ I, Hid (ints (List.replicate k (-1)) = I) := ⟨_, rfl⟩
      obtain ⟨J, HJ⟩ : ∃ J, Hid (txts (List.replicate k ByteArray.empty) = J) := ⟨_, rfl⟩
      have hil : Hid (I.length = k) := by rw [Hid, ← HI.out]; exact hA
      have hjl : Hid (J.length = k) := by rw [Hid, ← HJ.out]; exact hT
      have HK1 : Hid (Kp w w.heap.size (w.heap.size + 1) u1 u2 0 (List.replicate k (-1)) (List.replicate k ByteArray.empty) (wr.alloc (.cells #[.int .i64 (-1)] 3))) := HK.out.below (below_new _ _)
      have hown : (wr.alloc (.cells #[.int .i64 (-1)] 3)).ownsRow w.heap.size 3 1 u1 k I := ov_row HK1.out.at' HI.out hil.out
      have hnews : ∀ j u, [Value.int .i64 (-1)][j]? = some u → (wr.alloc (.cells #[.int .i64 (-1)] 3)).cell? ((⟨wr.heap.size, 0, none⟩ : Addr).add j) = some u := World.news_of_block (heap_alloc_new _ _)
      have hsz : w.heap.size ≤ wr.heap.size := HK.out.old.size
      have hal : Hid (k + 1 = (List.replicate k (-1 : Int)).length + 1) := by simp [Hid]
      have htl : Hid (k + 1 = (List.replicate k ByteArray.empty).length + 1) := by simp [Hid]
      have ck0 := HK.out.kept.cell 0 rfl
      clear hA hT
      go_wp2_with (at_builtin; refine wpList_append_lies _ rfl (.tmp 8) (.tmp 9) 22 rfl w.heap.size 3 i3 (.int .i64 0) 1 8 Try.underlying22 hi3 h30 h31 h32 rfl (by decide) u1 k I rfl hown ⟨wr.heap.size, 0, none⟩ 1 1 [.int .i64 (-1)] rfl rfl hnews (fun u hu => by simp at hu; subst hu; rfl) (by decide) (by unfold maxLen; omega) (by omega) (by simp; omega) (wr.heap.size + 1) (by simp) ?_)
      intro g cap w2 h1 hgrow h3 h4
      rw [← HI.out] at h1
      have HK2 : Hid (Kp w w.heap.size (w.heap.size + 1) (.slice (some ⟨g, 0, none⟩) (k + 1) cap) u2 0 (List.replicate (k + 1) (-1)) (List.replicate k ByteArray.empty) (w2.setCell ⟨w.heap.size + 1, 0, none⟩ (.slice (some ⟨g, 0, none⟩) (k + 1) cap))) := by
        rw [HX1.out]
        exact HK1.out.more_at (-1) g cap (k + 1) hal.out h1 hgrow
      have k2 := HK1.out.kept.grown hgrow (HK1.out.at'.apart HK1.out.kept (by decide))
      have d0 := k2.cell 0 rfl
      have f0 := k2.frozen 0
      clear h1 hgrow h3 h4 k2 hown hnews HK1 ck0 HK
      go_upto_region 6 with fail
      generalize w2.setCell ⟨w.heap.size + 1, 0, none⟩ (.slice (some ⟨g, 0, none⟩) (k + 1) cap) = W3 at HK2 ⊢
      clear d0 f0
      have HK3 : Hid (Kp w w.heap.size (w.heap.size + 1) (.slice (some ⟨g, 0, none⟩) (k + 1) cap) u2 0 (List.replicate (k + 1) (-1)) (List.replicate k ByteArray.empty) (W3.alloc (.cells #[.string ByteArray.empty] 9))) := HK2.out.below (below_new _ _)
      have hown : (W3.alloc (.cells #[.string ByteArray.empty] 9)).ownsRow w.heap.size 9 1 u2 k J := ov_row HK3.out.text HJ.out hjl.out
      have hnews : ∀ j u, [Value.string ByteArray.empty][j]? = some u → (W3.alloc (.cells #[.string ByteArray.empty] 9)).cell? ((⟨W3.heap.size, 0, none⟩ : Addr).add j) = some u := World.news_of_block (heap_alloc_new _ _)
      have hsz3 : w.heap.size ≤ W3.heap.size := HK2.out.old.size
      have ck1 := HK2.out.kept.cell 1 rfl
      go_wp2_with (at_builtin; refine wpList_append_lies _ rfl (.tmp 13) (.tmp 14) 23 rfl w.heap.size 9 i9 (.string ByteArray.empty) 1 16 Try.underlying23 hi9 h90 h91 h92 rfl (by decide) u2 k J rfl hown ⟨W3.heap.size, 0, none⟩ 1 1 [.string ByteArray.empty] rfl rfl hnews (fun u hu => by simp at hu; subst hu; rfl) (by decide) (by unfold maxLen; omega) (by omega) (by simp; omega) (W3.heap.size + 1) (by simp) ?_)
      intro g2 cap2 w4 h1 hgrow h3 h4
      rw [← HJ.out] at h1
      have HK4 : Hid (Kp w w.heap.size (w.heap.size + 1) (.slice (some ⟨g, 0, none⟩) (k + 1) cap) (.slice (some ⟨g2, 0, none⟩) (k + 1) cap2) 0 (List.replicate (k + 1) (-1)) (List.replicate (k + 1) ByteArray.empty) (w4.setCell ⟨w.heap.size + 1, 1, none⟩ (.slice (some ⟨g2, 0, none⟩) (k + 1) cap2))) := by
        rw [HX2.out]
        exact HK3.out.more_text ByteArray.empty g2 cap2 (k + 1) htl.out h1 hgrow
      have k2 := HK3.out.kept.grown hgrow (HK3.out.text.apart HK3.out.kept (by decide))
      have d1 := k2.cell 1 rfl
      have f1 := k2.frozen 1
      clear h1 hgrow h3 h4 k2 hown hnews HK3 ck1 HK2
      go_wp2_with fail
      go_roundw
      case rel => exact ⟨k + 1, _, _, by omega, by go_num, HK4⟩
      case measure => simp [intOf]; omega
    · obtain rfl : k = 2 := by omega
      have K8 := HK.out
      obtain ⟨q1, p1, e1⟩ := K8.at'.form
      obtain ⟨q2, p2, e2⟩ := K8.text.form
      obtain ⟨n1, hn1⟩ : ∃ n, n = (ints (List.replicate 2 (-1))).length := ⟨_, rfl⟩
      obtain ⟨n2, hn2⟩ : ∃ n, n = (txts (List.replicate 2 ByteArray.empty)).length := ⟨_, rfl⟩
      rw [← hn1] at e1
      rw [← hn2] at e2
      subst e1 e2
      clear hn1 hn2
      have ck0 := K8.kept.cell 0 rfl
      have ck1 := K8.kept.cell 1 rfl
      have ck2 := K8.kept.cell 2 rfl
      have cr0 := K8.res.cell 0 rfl
      have cr1 := K8.res.cell 1 rfl
      have cr2 := K8.res.cell 2 rfl
      have fr0 := K8.res.frozen 0
      have fr1 := K8.res.frozen 1
      have fr2 := K8.res.frozen 2
      obtain ⟨R1, C1, B1⟩ := K8.fill
      clear K8 HK
      go_wp2_with fail
      generalize (((wr.setCell ⟨w.heap.size, 0, none⟩ (.slice q1 n1 p1)).setCell ⟨w.heap.size, 1, none⟩ (.slice q2 n2 p2)).setCell ⟨w.heap.size, 2, none⟩ (.int .i64 0)) = W4 at R1 C1 B1 ⊢
      have d0 := R1.cell 0 rfl
      have d1 := R1.cell 1 rfl
      have d2 := R1.cell 2 rfl
      refine bodyPost_ret (v := .agg #[.slice q1 n1 p1, .slice q2 n2 p2, .int .i64 0]) (by simp [results, Try.results18, go_sem, d0, d1, d2]) rfl ⟨q1, n1, p1, q2, n2, p2, rfl, C1, B1⟩
end Go.Proofs.Ytbcdfobclliboaa
