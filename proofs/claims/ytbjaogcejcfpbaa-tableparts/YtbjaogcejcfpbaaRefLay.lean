/-
  The phases of a command as the document lays them, by one contract. Conditions: the command may be driven; the data are no longer than a row that is read may be.
-/
import Derived.Test.YtbjaogcejcfpbaaMid2
import Derived.Test.YtbjaogcejcfpbaaMay
import Derived.Deep.RegionHeld3
import Derived.Deep.CutBlock
import Derived.Deep.CutRange
namespace Go.Proofs.Ytbjaogcejcfpbaa
open Go.RowKit
set_option linter.unusedVariables false

set_option maxRecDepth 100000 in
set_option maxHeartbeats 4000000 in
theorem refCommand_no (b A : Int) (M : Bool) (D N : Int) (I : Bool) (k : Int) (u : Value) (L : List Int) (r : Int) (w : World) (hu : Reads w u L) (hl : L.length * 8 ≤ 140737488351232) (hf : fitB b A M D N I k L r = false) :
    Calls Try.prog 11 #[.agg #[.int .i64 b, .int .i64 A, .bool M, .int .i64 D, .int .i64 N, .bool I], .int .i64 k, u, .int .i64 r] w fun e w' => e = .returned (.tuple #[.slice none 0 0, .int .i64 900]) ∧ Below w.heap.size w w' := by
  have HC := (refMay_any b A M D N I k u L r (w.alloc (.cells #[.int .i64 b, .int .i64 A, .bool M, .int .i64 D, .int .i64 N, .bool I] 23)) (hu.below (below_new _ _)) hl)
  rw [hf] at HC
  have HC : Hid (Calls _ _ _ _ _) := HC
  obtain ⟨a, c, rfl, -⟩ := hu
  clear hf
  go_enter Try.func11, Try.ntmps11
  go_wp2_with fail
  refine HC.out.mono ?_
  rintro e w1 ⟨rfl, b1⟩
  have B1 : Hid (Below w.heap.size w w1) := below_then (below_new _ _) b1
  clear b1 HC
  go_wp2
  go_ret2
  exact ⟨rfl, B1.out⟩

set_option maxRecDepth 100000 in
set_option maxHeartbeats 4000000 in
theorem refCommand_yes (b A : Int) (M : Bool) (D N : Int) (I : Bool) (k : Nat) (a : Option Addr) (n c : Nat) (L : List Int) (r : Int) (w : World) (hk : k < 4096) (hC : Came w a n c L) (hn : n * 8 ≤ 140737488351232) (hf : fitB b A M D N I k L r = true) (hMn : M = true → 0 < n) :
    Calls Try.prog 11 #[.agg #[.int .i64 b, .int .i64 A, .bool M, .int .i64 D, .int .i64 N, .bool I], .int .i64 k, .slice a n c, .int .i64 r] w fun e w' => ∃ v, e = .returned (.tuple #[v, .int .i64 0]) ∧ ∃ qs, POwns w.heap.size w' v qs ∧ qs.map Prod.snd = phL (b, A, M, D, N, I) k L r ∧ Below w.heap.size w w' := by
  obtain ⟨i0, hi, hz0, hz1, hz2⟩ := info_parts info45
  obtain ⟨i3, ti, tz0, tz1, tz2⟩ := info_parts info3
  have HM0 := (refMay_any b A M D N I k (.slice a n c) L r (w.alloc (.cells #[.int .i64 b, .int .i64 A, .bool M, .int .i64 D, .int .i64 N, .bool I] 23)) (hC.reads.below (below_new _ _)) (by rw [hC.1]; exact hn))
  rw [hf] at HM0
  have HM0 : Hid (Calls _ _ _ _ _) := HM0
  have HC : Hid (Came w a n c L) := hC
  clear hC hf
  go_enter Try.func11, Try.ntmps11
  go_wp2_with fail
  refine HM0.out.mono ?_
  rintro e w1 ⟨rfl, b1⟩
  have hBx : Box w1 w.heap.size (b, A, M, D, N, I) := (Box.new w (b, A, M, D, N, I)).below b1
  have hM := Mid.start hBx (below_then (below_new _ _) b1)
  obtain ⟨c0, c1, c2, c3, c4, c5⟩ := hBx.six
  obtain ⟨d0, d1, d2, d3, d4, d5⟩ := hM.box.six
  dsimp only at hM d0 d1 d2 d3 d4 d5
  clear b1 HM0
  go_upto_if 24 with fail
  generalize hW : ((w1.alloc (.cells #[.int .i64 b] 3)).alloc (.cells #[.int .i64 1, .slice (some ⟨w1.heap.size, 0, none⟩) 1 1, .int .i64 0, .int .i64 0] 45)) = W at hM ⊢
  generalize hv : Value.slice (some ⟨w1.heap.size + 1, 0, none⟩) 1 1 = v at hM ⊢
  clear hW hv c0 c1 c2 c3 c4 c5 d0 d1 d2 d3 d4 d5
  obtain ⟨X1, hX1⟩ : ∃ X : List Ph, X = [(1, [b], 0, 0)] := ⟨_, rfl⟩
  rw [← hX1] at hM
  have HX1 : Hid (X1 = [(1, [b], 0, 0)]) := hX1
  have HM : Hid (Mid w (b, A, M, D, N, I) 1 X1 v W) := hM
  clear hM hX1 hBx
  obtain ⟨X2, hX2⟩ : ∃ X : List Ph, X = X1 ++ if 0 < A then [(A, addrL k, 0, 0)] else [] := ⟨_, rfl⟩
  have HX2 : Hid (X2 = X1 ++ if 0 < A then [(A, addrL k, 0, 0)] else []) := hX2
  clear hX2
  go_cut [10] from 11 (fun v wc => Hid (Mid w (b, A, M, D, N, I) 2 X2 v wc))
  case first => as_aux_lemma =>
    by_cases hA : 0 < A
    · have hE : Hid (X2 = X1 ++ [(A, addrL k, 0, 0)]) := by rw [Hid, HX2.out, if_pos hA]
      have ho : Owns w.heap.size (W.alloc (.cells #[.int .i64 ((k : Int) / 65536), .int .i64 (bits .and .i64 ((k : Int) / 256) 255), .int .i64 (bits .and .i64 (k : Int) 255)] 3)) (.slice (some ⟨W.heap.size, 0, none⟩) 3 3) (addrL k) := (Owns.lit (w := W) (addrL k) 3 _ (by simp [addrL, and_255]) rfl (by unfold maxLen; omega)).below (Below.refl _ _) HM.out.old.size
      obtain ⟨c0, c1, c2, c3, c4, c5⟩ := HM.out.box.six
      obtain ⟨qs, hl, hown, hnews, hone, hsz, -, hnext⟩ := Mid.laid HM.out (below_new _ _) (p := (A, addrL k, 0, 0)) ho
      have hsz0 : (W.alloc (.cells #[.int .i64 ((k : Int) / 65536), .int .i64 (bits .and .i64 ((k : Int) / 256) 255), .int .i64 (bits .and .i64 (k : Int) 255)] 3)).heap.size = W.heap.size + 1 := by simp
      rw [hsz0] at hnews
      have HN : Hid (∀ g cap w2, _ → _ → Mid w (b, A, M, D, N, I) 2 (X1 ++ [(A, addrL k, 0, 0)]) (.slice (some ⟨g, 0, none⟩) (qs.length + 1) cap) w2) := hnext
      have hold : w.heap.size ≤ W.heap.size := HM.out.old.size
      go_wp2_with (at_builtin; refine wpList_append_lies _ rfl _ _ 31 rfl w.heap.size 45 i0 (.agg #[.int .i64 0, .slice none 0 0, .int .i64 0, .int .i64 0]) 4 48 Try.underlying31 hi hz0 hz1 hz2 rfl (by decide) _ qs.length (rowC qs) rfl hown ⟨W.heap.size + 1, 0, none⟩ 1 1 (phC (.slice (some ⟨W.heap.size, 0, none⟩) 3 3) (A, addrL k, 0, 0)) rfl rfl hnews hone (by decide) (by unfold maxLen; omega) (by omega) (by simp; omega) (W.heap.size + 1 + 1) (by simp) ?_)
      intro g cap w2 hown2 hgrow hat hlt
      have m2 : Hid (Mid w (b, A, M, D, N, I) 2 (X1 ++ [(A, addrL k, 0, 0)]) (.slice (some ⟨g, 0, none⟩) (qs.length + 1) cap) w2) := HN.out g cap w2 hown2 hgrow
      clear hown2 hgrow hat hlt HN hnext hown hnews hone
      go_wp2_with fail
      go_meet
      case rel => rw [hE.out]; exact m2
    · have hE : Hid (X2 = X1) := by rw [Hid, HX2.out, if_neg hA, List.append_nil]
      go_wp2_with fail
      go_meet
      case rel => rw [hE.out]; exact HM.out.more (by omega)
  case rest => as_aux_lemma =>
    obtain ⟨v2, e9⟩ : ∃ y, y = u10 := ⟨_, rfl⟩
    obtain ⟨wc2, ec⟩ : ∃ y, y = wc := ⟨_, rfl⟩
    subst e9 ec
    have HM2 : Hid (Mid w (b, A, M, D, N, I) 2 X2 v2 wc2) := hcut
    clear hcut HM
    obtain ⟨c0, c1, c2, c3, c4, c5⟩ := HM2.out.box.six
    go_upto_if 40 with fail
    obtain ⟨X3, hX3⟩ : ∃ X : List Ph, X = X2 ++ if M = true then [(A, L, 0, 0)] else [] := ⟨_, rfl⟩
    have HX3 : Hid (X3 = X2 ++ if M = true then [(A, L, 0, 0)] else []) := hX3
    clear hX3
    go_cut [10] from 11 (fun v wc => Hid (Mid w (b, A, M, D, N, I) 3 X3 v wc))
    case first => as_aux_lemma =>
      by_cases hA : M = true
      · have hE : Hid (X3 = X2 ++ [(A, L, 0, 0)]) := by rw [Hid, HX3.out, if_pos hA]
        subst hA
        have hnl : 0 < n := hMn rfl
        obtain ⟨ya, rfl⟩ : ∃ ya, a = some ya := by
          obtain ⟨-, ⟨-, h0, -⟩ | ⟨ya, h0, -⟩⟩ := HC.out
          · omega
          · exact ⟨ya, h0⟩
        have S0 : wc2.drew.cell? ⟨w.heap.size, 1, none⟩ = some (.int .i64 A) := HM2.out.box.six.2.1
        have s0 : (wc2.drew.alloc (.cells #[] 3)).cell? ⟨w.heap.size, 1, none⟩ = some (.int .i64 A) := (HM2.out.drew.box.below (below_new _ _)).six.2.1
        go_wp2_with fail
        go_region_held3 (fun z => z.cell? ⟨w.heap.size, 1, none⟩ = some (.int .i64 A)) (first | exact S0 | exact s0 | exact s1 | exact s2 | exact s3)
          (first | (refine step_copy rfl (.tmp 44) (.tmp 45) rfl w wc2.drew ya n c L (by simp [Act.eval]) (by simp [Act.eval]) HC.out HM2.out.drew.old hn hnl ?_; intro g1 cap1 w1 ho b1; obtain ⟨qs, hl, hown, hnews, hone, hsz, ⟨x1, x2⟩, hnext⟩ := Mid.laid HM2.out.drew b1 (p := (A, L, 0, 0)) (ho.below (Below.refl _ _) HM2.out.drew.old.size); (have s1 := x1.six.2.1); (have s2 := x2.six.2.1)) | (refine step_append_lies _ rfl (.tmp 41) (.tmp 48) 31 rfl w.heap.size 45 i0 (.agg #[.int .i64 0, .slice none 0 0, .int .i64 0, .int .i64 0]) 4 48 Try.underlying31 hi hz0 hz1 hz2 rfl (by decide) v2 qs.length (rowC qs) (by simp [Act.eval]) hown ⟨w1.heap.size, 0, none⟩ 1 1 (phC (.slice (some ⟨g1, 0, none⟩) L.length cap1) (A, L, 0, 0)) (by simp [Act.eval]) rfl hnews hone (by decide) (by unfold maxLen; omega) (by omega) (by simp; omega) (w1.heap.size + 1) (by simp) ?_; intro g cap w2 hown2 hgrow hat hlt; (have m2 := hnext g cap w2 hown2 hgrow); (have s3 := m2.box.six.2.1)))
        go_wp2_with fail
        go_meet
        case rel => rw [hE.out]; exact m2
      · have hE : Hid (X3 = X2) := by rw [Hid, HX3.out, if_neg hA, List.append_nil]
        have hMf : M = false := by simpa using hA
        subst hMf
        go_wp2_with fail
        go_meet
        case rel => rw [hE.out]; exact HM2.out.more (by omega)
    case rest => as_aux_lemma =>
      obtain ⟨v3, e9⟩ : ∃ y, y = u10 := ⟨_, rfl⟩
      obtain ⟨wc3, ec⟩ : ∃ y, y = wc := ⟨_, rfl⟩
      subst e9 ec
      have HM3 : Hid (Mid w (b, A, M, D, N, I) 3 X3 v3 wc3) := hcut
      clear hcut HM2
      obtain ⟨c0, c1, c2, c3, c4, c5⟩ := HM3.out.box.six
      go_upto_if 52 with fail
      obtain ⟨X4, hX4⟩ : ∃ X : List Ph, X = X3 ++ if 0 < D then [(0, [], D, 0)] else [] := ⟨_, rfl⟩
      have HX4 : Hid (X4 = X3 ++ if 0 < D then [(0, [], D, 0)] else []) := hX4
      clear hX4
      go_cut [10] from 11 (fun v wc => Hid (Mid w (b, A, M, D, N, I) 4 X4 v wc))
      case first => as_aux_lemma =>
        by_cases hA : 0 < D
        · have hE : Hid (X4 = X3 ++ [(0, [], D, 0)]) := by rw [Hid, HX4.out, if_pos hA]
          obtain ⟨c0, c1, c2, c3, c4, c5⟩ := HM3.out.box.six
          obtain ⟨qs, hl, hown, hnews, hone, hsz, -, hnext⟩ := Mid.laid HM3.out (Below.refl _ _) (p := (0, [], D, 0)) (World.ownsRow_nil _ _ _ _)
          have HN : Hid (∀ g cap w2, _ → _ → Mid w (b, A, M, D, N, I) 4 (X3 ++ [(0, [], D, 0)]) (.slice (some ⟨g, 0, none⟩) (qs.length + 1) cap) w2) := hnext
          have hold : w.heap.size ≤ wc3.heap.size := HM3.out.old.size
          go_wp2_with (at_builtin; refine wpList_append_lies _ rfl _ _ 31 rfl w.heap.size 45 i0 (.agg #[.int .i64 0, .slice none 0 0, .int .i64 0, .int .i64 0]) 4 48 Try.underlying31 hi hz0 hz1 hz2 rfl (by decide) _ qs.length (rowC qs) rfl hown ⟨wc3.heap.size, 0, none⟩ 1 1 (phC (.slice none 0 0) (0, [], D, 0)) rfl rfl hnews hone (by decide) (by unfold maxLen; omega) (by omega) (by simp; omega) (wc3.heap.size + 1) (by simp) ?_)
          intro g cap w2 hown2 hgrow hat hlt
          have m2 : Hid (Mid w (b, A, M, D, N, I) 4 (X3 ++ [(0, [], D, 0)]) (.slice (some ⟨g, 0, none⟩) (qs.length + 1) cap) w2) := HN.out g cap w2 hown2 hgrow
          clear hown2 hgrow hat hlt HN hnext hown hnews hone
          go_wp2_with fail
          go_meet
          case rel => rw [hE.out]; exact m2
        · have hE : Hid (X4 = X3) := by rw [Hid, HX4.out, if_neg hA, List.append_nil]
          go_wp2_with fail
          go_meet
          case rel => rw [hE.out]; exact HM3.out.more (by omega)
      case rest => as_aux_lemma =>
        obtain ⟨v4, e9⟩ : ∃ y, y = u10 := ⟨_, rfl⟩
        obtain ⟨wc4, ec⟩ : ∃ y, y = wc := ⟨_, rfl⟩
        subst e9 ec
        have HM4 : Hid (Mid w (b, A, M, D, N, I) 4 X4 v4 wc4) := hcut
        clear hcut HM3
        obtain ⟨c0, c1, c2, c3, c4, c5⟩ := HM4.out.box.six
        go_upto_region 10 with fail
        obtain ⟨y, hy⟩ : ∃ y : Bool, (I && decide (0 < n)) = y := ⟨_, rfl⟩
        have HY : Hid ((I && decide (0 < n)) = y) := hy
        clear hy
        go_cut [10, 65] from 11 (fun y9 y51 wz => y9 = v4 ∧ y51 = .bool y ∧ wz = wc4)
        case first => as_aux_lemma =>
          cases I
          · go_wp2
            go_meet
            case rel => exact ⟨rfl, congrArg Value.bool (by rw [← HY.out]; simp), rfl⟩
          · go_wp2
            go_meet
            case rel => exact ⟨rfl, congrArg Value.bool (by rw [← HY.out]; simp), rfl⟩
        case rest => as_aux_lemma =>
          obtain ⟨rfl, rfl, rfl⟩ := hcut
          obtain ⟨v4, e9⟩ : ∃ y, y = u10 := ⟨_, rfl⟩
          obtain ⟨wc4, ec⟩ : ∃ y, y = wc := ⟨_, rfl⟩
          subst e9 ec
          go_upto_if 65 with fail
          obtain ⟨X5, hX5⟩ : ∃ X : List Ph, X = X4 ++ if I = true ∧ 0 < L.length then [(N, L, 0, 0)] else [] := ⟨_, rfl⟩
          have HX5 : Hid (X5 = X4 ++ if I = true ∧ 0 < L.length then [(N, L, 0, 0)] else []) := hX5
          clear hX5
          go_cut [10] from 11 (fun v wc => Hid (Mid w (b, A, M, D, N, I) 5 X5 v wc))
          case first => as_aux_lemma =>
            by_cases hA : I = true ∧ 0 < L.length
            · have hE : Hid (X5 = X4 ++ [(N, L, 0, 0)]) := by rw [Hid, HX5.out, if_pos hA]
              obtain ⟨rfl, hl0⟩ := hA
              have hnl : 0 < n := by rw [← HC.out.1]; exact hl0
              have hyt : y = true := by rw [← HY.out, decide_eq_true hnl]; rfl
              subst hyt
              obtain ⟨ya, rfl⟩ : ∃ ya, a = some ya := by
                obtain ⟨-, ⟨-, h0, -⟩ | ⟨ya, h0, -⟩⟩ := HC.out
                · omega
                · exact ⟨ya, h0⟩
              have S0 : wc4.drew.cell? ⟨w.heap.size, 4, none⟩ = some (.int .i64 N) := HM4.out.box.six.2.2.2.2.1
              have s0 : (wc4.drew.alloc (.cells #[] 3)).cell? ⟨w.heap.size, 4, none⟩ = some (.int .i64 N) := (HM4.out.drew.box.below (below_new _ _)).six.2.2.2.2.1
              go_wp2_with fail
              go_region_held3 (fun z => z.cell? ⟨w.heap.size, 4, none⟩ = some (.int .i64 N)) (first | exact S0 | exact s0 | exact s1 | exact s2 | exact s3)
                (first | (refine step_copy rfl (.tmp 69) (.tmp 70) rfl w wc4.drew ya n c L (by simp [Act.eval]) (by simp [Act.eval]) HC.out HM4.out.drew.old hn hnl ?_; intro g1 cap1 w1 ho b1; obtain ⟨qs, hl, hown, hnews, hone, hsz, ⟨x1, x2⟩, hnext⟩ := Mid.laid HM4.out.drew b1 (p := (N, L, 0, 0)) (ho.below (Below.refl _ _) HM4.out.drew.old.size); (have s1 := x1.six.2.2.2.2.1); (have s2 := x2.six.2.2.2.2.1)) | (refine step_append_lies _ rfl (.tmp 66) (.tmp 73) 31 rfl w.heap.size 45 i0 (.agg #[.int .i64 0, .slice none 0 0, .int .i64 0, .int .i64 0]) 4 48 Try.underlying31 hi hz0 hz1 hz2 rfl (by decide) v4 qs.length (rowC qs) (by simp [Act.eval]) hown ⟨w1.heap.size, 0, none⟩ 1 1 (phC (.slice (some ⟨g1, 0, none⟩) L.length cap1) (N, L, 0, 0)) (by simp [Act.eval]) rfl hnews hone (by decide) (by unfold maxLen; omega) (by omega) (by simp; omega) (w1.heap.size + 1) (by simp) ?_; intro g cap w2 hown2 hgrow hat hlt; (have m2 := hnext g cap w2 hown2 hgrow); (have s3 := m2.box.six.2.2.2.2.1)))
              go_wp2_with fail
              go_meet
              case rel => rw [hE.out]; exact m2
            · have hE : Hid (X5 = X4) := by rw [Hid, HX5.out, if_neg hA, List.append_nil]
              have hyf : y = false := by
                rw [← HY.out]
                cases I
                · rfl
                · have := HC.out.1
                  have : ¬ 0 < L.length := fun h => hA ⟨rfl, h⟩
                  rw [decide_eq_false (by omega)]; rfl
              subst hyf
              go_wp2_with fail
              go_meet
              case rel => rw [hE.out]; exact HM4.out.more (by omega)
          case rest => as_aux_lemma =>
            obtain ⟨v5, e9⟩ : ∃ y, y = u10 := ⟨_, rfl⟩
            obtain ⟨wc5, ec⟩ : ∃ y, y = wc := ⟨_, rfl⟩
            subst e9 ec
            have HM5 : Hid (Mid w (b, A, M, D, N, I) 5 X5 v5 wc5) := hcut
            clear hcut HM4
            obtain ⟨c0, c1, c2, c3, c4, c5⟩ := HM5.out.box.six
            go_upto_if 76 with fail
            obtain ⟨X6, hX6⟩ : ∃ X : List Ph, X = X5 ++ if 0 < r then [(N, [], 0, r)] else [] := ⟨_, rfl⟩
            have HX6 : Hid (X6 = X5 ++ if 0 < r then [(N, [], 0, r)] else []) := hX6
            clear hX6
            go_cut [10] from 11 (fun v wc => Hid (Mid w (b, A, M, D, N, I) 6 X6 v wc))
            case first => as_aux_lemma =>
              by_cases hA : 0 < r
              · have hE : Hid (X6 = X5 ++ [(N, [], 0, r)]) := by rw [Hid, HX6.out, if_pos hA]
                obtain ⟨c0, c1, c2, c3, c4, c5⟩ := HM5.out.box.six
                obtain ⟨qs, hl, hown, hnews, hone, hsz, -, hnext⟩ := Mid.laid HM5.out (Below.refl _ _) (p := (N, [], 0, r)) (World.ownsRow_nil _ _ _ _)
                have HN : Hid (∀ g cap w2, _ → _ → Mid w (b, A, M, D, N, I) 6 (X5 ++ [(N, [], 0, r)]) (.slice (some ⟨g, 0, none⟩) (qs.length + 1) cap) w2) := hnext
                have hold : w.heap.size ≤ wc5.heap.size := HM5.out.old.size
                go_wp2_with (at_builtin; refine wpList_append_lies _ rfl _ _ 31 rfl w.heap.size 45 i0 (.agg #[.int .i64 0, .slice none 0 0, .int .i64 0, .int .i64 0]) 4 48 Try.underlying31 hi hz0 hz1 hz2 rfl (by decide) _ qs.length (rowC qs) rfl hown ⟨wc5.heap.size, 0, none⟩ 1 1 (phC (.slice none 0 0) (N, [], 0, r)) rfl rfl hnews hone (by decide) (by unfold maxLen; omega) (by omega) (by simp; omega) (wc5.heap.size + 1) (by simp) ?_)
                intro g cap w2 hown2 hgrow hat hlt
                have m2 : Hid (Mid w (b, A, M, D, N, I) 6 (X5 ++ [(N, [], 0, r)]) (.slice (some ⟨g, 0, none⟩) (qs.length + 1) cap) w2) := HN.out g cap w2 hown2 hgrow
                clear hown2 hgrow hat hlt HN hnext hown hnews hone
                go_wp2_with fail
                go_meet
                case rel => rw [hE.out]; exact m2
              · have hE : Hid (X6 = X5) := by rw [Hid, HX6.out, if_neg hA, List.append_nil]
                go_wp2_with fail
                go_meet
                case rel => rw [hE.out]; exact HM5.out.more (by omega)
            case rest => as_aux_lemma =>
              obtain ⟨v6, e9⟩ : ∃ y, y = u10 := ⟨_, rfl⟩
              obtain ⟨wc6, ec⟩ : ∃ y, y = wc := ⟨_, rfl⟩
              subst e9 ec
              have HM6 : Hid (Mid w (b, A, M, D, N, I) 6 X6 v6 wc6) := hcut
              clear hcut HM5
              obtain ⟨c0, c1, c2, c3, c4, c5⟩ := HM6.out.box.six
              have HF : Hid (X6 = phL (b, A, M, D, N, I) k L r) := by
                rw [Hid, HX6.out, HX5.out, HX4.out, HX3.out, HX2.out, HX1.out]; rfl
              go_wp2
              go_ret2
              obtain ⟨qs, hp, hX, -, -, hB⟩ := HM6.out
              exact ⟨_, rfl, qs, hp, hX.trans HF.out, hB⟩
end Go.Proofs.Ytbjaogcejcfpbaa
