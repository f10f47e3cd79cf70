/-
  The phases of a command, laid by the program. Conditions: those of each statement.
-/
import Derived.Test.YtjhjghakfedeeaaGreatCmdA
import Derived.Lib.SliceRun
import Derived.Deep.AppendLies
import Derived.Deep.RegionHeld3
import Derived.Deep.CutBlock
import Derived.Deep.CutRange
namespace Go.Proofs.YtjhjghakfedeeaaGreat
open Go.RowKit Plain
set_option linter.unusedVariables false
set_option maxRecDepth 100000 in
set_option maxHeartbeats 4000000 in
theorem phases_any (b A : Int) (M : Bool) (D N : Int) (I : Bool) (k : Nat) (a : Option Addr) (n c : Nat) (L : List Int) (r : Int) (w : World) (hk : k < 4096) (hC : Came w a n c L) (hn : n * 8 ≤ 140737488351232) :
    Calls Tryz.prog 146 #[.agg #[.int .i64 b, .int .i64 A, .bool M, .int .i64 D, .int .i64 N, .bool I], .int .i64 k, .slice a n c, .int .i64 r] w fun e w' => ∃ v, e = .returned v ∧ ∃ qs, POwns w.heap.size w' v qs ∧ qs.map Prod.snd = phL (b, A, M, D, N, I) k L r ∧ Below w.heap.size w w' := by
  obtain ⟨i0, hi, hz0, hz1, hz2⟩ := info_parts info50
  have HC : Hid (Came w a n c L) := hC
  clear hC
  go_enter Tryz.func146, Tryz.ntmps146
  go_upto_if 17 with fail
  have hM := Mid.first w (b, A, M, D, N, I)
  dsimp only at hM
  generalize hW : (((w.alloc (.cells #[.int .i64 b, .int .i64 A, .bool M, .int .i64 D, .int .i64 N, .bool I] 54)).alloc (.cells #[.int .i64 b] 3)).alloc (.cells #[.int .i64 1, .slice (some ⟨w.heap.size + 1, 0, none⟩) 1 1, .int .i64 0, .int .i64 0] 49)) = W at hM ⊢
  generalize hv : Value.slice (some ⟨w.heap.size + 1 + 1, 0, none⟩) 1 1 = v at hM ⊢
  clear hW hv
  obtain ⟨X1, hX1⟩ : ∃ X : List Ph, X = [(1, [b], 0, 0)] := ⟨_, rfl⟩
  rw [← hX1] at hM
  have HX1 : Hid (X1 = [(1, [b], 0, 0)]) := hX1
  have HM : Hid (Mid w (b, A, M, D, N, I) 1 X1 v W) := hM
  clear hM hX1
  obtain ⟨X2, hX2⟩ : ∃ X : List Ph, X = X1 ++ if 0 < A then [(A, addrL k, 0, 0)] else [] := ⟨_, rfl⟩
  have HX2 : Hid (X2 = X1 ++ if 0 < A then [(A, addrL k, 0, 0)] else []) := hX2
  clear hX2
  go_cut [9] from 10 (fun v wc => Hid (Mid w (b, A, M, D, N, I) 2 X2 v wc))
  case first => as_aux_lemma =>
    by_cases hA : 0 < A
    · have hE : Hid (X2 = X1 ++ [(A, addrL k, 0, 0)]) := by rw [Hid, HX2.out, if_pos hA]
      have S0 : W.drew.cell? ⟨w.heap.size, 1, none⟩ = some (.int .i64 A) := HM.out.box.six.2.1
      go_wp2_with fail
      go_region_held3 (fun z => z.cell? ⟨w.heap.size, 1, none⟩ = some (.int .i64 A)) (first | exact S0 | exact s1 | exact s2 | exact s3)
        (first | (go_at_call 159; refine (address_any k _ hk).mono ?_; rintro e w1 ⟨bv, rfl, ho, b1⟩; obtain ⟨xa, xc, rfl⟩ := own_slice ho; obtain ⟨qs, hl, hown, hnews, hone, hsz, ⟨x1, x2⟩, hnext⟩ := Mid.laid HM.out.drew b1 (p := (A, addrL k, 0, 0)) (ho.below (Below.refl _ _) HM.out.drew.old.size); (have s1 := x1.six.2.1); (have s2 := x2.six.2.1)) | (refine step_append_lies _ rfl (.tmp 18) (.tmp 24) 28 rfl w.heap.size 49 i0 (.agg #[.int .i64 0, .slice none 0 0, .int .i64 0, .int .i64 0]) 4 48 Tryz.underlying28 hi hz0 hz1 hz2 rfl (by decide) v qs.length (rowC qs) (by simp [Act.eval]) hown ⟨w1.heap.size, 0, none⟩ 1 1 (phC (.slice xa (addrL k).length xc) (A, addrL k, 0, 0)) (by simp [Act.eval]) rfl hnews hone (by decide) (by unfold maxLen; omega) (by omega) (by simp; omega) (w1.heap.size + 1) (by simp) ?_; intro g cap w2 hown2 hgrow hat hlt; (have m2 := hnext g cap w2 hown2 hgrow); (have s3 := m2.box.six.2.1)))
      go_wp2_with fail
      go_meet
      case rel => rw [hE.out]; exact m2
    · have hE : Hid (X2 = X1) := by rw [Hid, HX2.out, if_neg hA, List.append_nil]
      go_wp2_with fail
      go_meet
      case rel => rw [hE.out]; exact HM.out.more (by omega)
  case rest => as_aux_lemma =>
    obtain ⟨v2, e9⟩ : ∃ y, y = u9 := ⟨_, rfl⟩
    obtain ⟨wc2, ec⟩ : ∃ y, y = wc := ⟨_, rfl⟩
    subst e9 ec
    have HM2 : Hid (Mid w (b, A, M, D, N, I) 2 X2 v2 wc2) := hcut
    clear hcut HM
    obtain ⟨c0, c1, c2, c3, c4, c5⟩ := HM2.out.box.six
    go_upto_if 27 with fail
    obtain ⟨X3, hX3⟩ : ∃ X : List Ph, X = X2 ++ if M = true then [(A, L, 0, 0)] else [] := ⟨_, rfl⟩
    have HX3 : Hid (X3 = X2 ++ if M = true then [(A, L, 0, 0)] else []) := hX3
    clear hX3
    go_cut [9] from 10 (fun v wc => Hid (Mid w (b, A, M, D, N, I) 3 X3 v wc))
    case first => as_aux_lemma =>
      by_cases hA : M = true
      · have hE : Hid (X3 = X2 ++ [(A, L, 0, 0)]) := by rw [Hid, HX3.out, if_pos hA]
        subst hA
        have S0 : wc2.drew.cell? ⟨w.heap.size, 1, none⟩ = some (.int .i64 A) := HM2.out.box.six.2.1
        go_wp2_with fail
        go_region_held3 (fun z => z.cell? ⟨w.heap.size, 1, none⟩ = some (.int .i64 A)) (first | exact S0 | exact s1 | exact s2 | exact s3)
          (first | (go_at_call 87; refine (tclone_any a n c L _ (HC.out.below HM2.out.drew.old) hn).mono ?_; rintro e w1 ⟨bv, rfl, ho, b1⟩; obtain ⟨xa, xc, rfl⟩ := own_slice ho; obtain ⟨qs, hl, hown, hnews, hone, hsz, ⟨x1, x2⟩, hnext⟩ := Mid.laid HM2.out.drew b1 (p := (A, L, 0, 0)) (ho.below (Below.refl _ _) HM2.out.drew.old.size); (have s1 := x1.six.2.1); (have s2 := x2.six.2.1)) | (refine step_append_lies _ rfl (.tmp 28) (.tmp 34) 28 rfl w.heap.size 49 i0 (.agg #[.int .i64 0, .slice none 0 0, .int .i64 0, .int .i64 0]) 4 48 Tryz.underlying28 hi hz0 hz1 hz2 rfl (by decide) v2 qs.length (rowC qs) (by simp [Act.eval]) hown ⟨w1.heap.size, 0, none⟩ 1 1 (phC (.slice xa L.length xc) (A, L, 0, 0)) (by simp [Act.eval]) rfl hnews hone (by decide) (by unfold maxLen; omega) (by omega) (by simp; omega) (w1.heap.size + 1) (by simp) ?_; intro g cap w2 hown2 hgrow hat hlt; (have m2 := hnext g cap w2 hown2 hgrow); (have s3 := m2.box.six.2.1)))
        go_wp2_with fail
        go_meet
        case rel => rw [hE.out]; exact m2
      · have hE : Hid (X3 = X2) := by rw [Hid, HX3.out, if_neg hA, List.append_nil]
        have hMf : M = false := by simpa using hA
        subst hMf
        go_wp2_with fail
        go_meet
        case rel => rw [hE.out]; exact HM2.out.more (by omega)
    case rest => as_aux_lemma =>
      obtain ⟨v3, e9⟩ : ∃ y, y = u9 := ⟨_, rfl⟩
      obtain ⟨wc3, ec⟩ : ∃ y, y = wc := ⟨_, rfl⟩
      subst e9 ec
      have HM3 : Hid (Mid w (b, A, M, D, N, I) 3 X3 v3 wc3) := hcut
      clear hcut HM2
      obtain ⟨c0, c1, c2, c3, c4, c5⟩ := HM3.out.box.six
      go_upto_if 38 with fail
      obtain ⟨X4, hX4⟩ : ∃ X : List Ph, X = X3 ++ if 0 < D then [(0, [], D, 0)] else [] := ⟨_, rfl⟩
      have HX4 : Hid (X4 = X3 ++ if 0 < D then [(0, [], D, 0)] else []) := hX4
      clear hX4
      go_cut [9] from 10 (fun v wc => Hid (Mid w (b, A, M, D, N, I) 4 X4 v wc))
      case first => as_aux_lemma =>
        by_cases hA : 0 < D
        · have hE : Hid (X4 = X3 ++ [(0, [], D, 0)]) := by rw [Hid, HX4.out, if_pos hA]
          obtain ⟨c0, c1, c2, c3, c4, c5⟩ := HM3.out.box.six
          obtain ⟨qs, hl, hown, hnews, hone, hsz, -, hnext⟩ := Mid.laid HM3.out (Below.refl _ _) (p := (0, [], D, 0)) (World.ownsRow_nil _ _ _ _)
          have HN : Hid (∀ g cap w2, _ → _ → Mid w (b, A, M, D, N, I) 4 (X3 ++ [(0, [], D, 0)]) (.slice (some ⟨g, 0, none⟩) (qs.length + 1) cap) w2) := hnext
          go_wp2_with (at_builtin; refine wpList_append_lies _ rfl _ _ 28 rfl w.heap.size 49 i0 (.agg #[.int .i64 0, .slice none 0 0, .int .i64 0, .int .i64 0]) 4 48 Tryz.underlying28 hi hz0 hz1 hz2 rfl (by decide) _ qs.length (rowC qs) rfl hown ⟨wc3.heap.size, 0, none⟩ 1 1 (phC (.slice none 0 0) (0, [], D, 0)) rfl rfl hnews hone (by decide) (by unfold maxLen; omega) (by omega) (by simp; omega) (wc3.heap.size + 1) (by simp) ?_)
          intro g cap w2 hown2 hgrow hat hlt
          have m2 : Hid (Mid w (b, A, M, D, N, I) 4 (X3 ++ [(0, [], D, 0)]) (.slice (some ⟨g, 0, none⟩) (qs.length + 1) cap) w2) := HN.out g cap w2 hown2 hgrow
          clear hown2 hgrow hat hlt HN hnext hown hnews hone
          go_wp2_with fail
          go_meet
          case rel => rw [hE.out]; exact m2
        · have hE : Hid (X4 = X3) := by rw [Hid, HX4.out, if_neg hA, List.append_nil]
          go_wp2_with fail
          go_meet
          case rel => rw [hE.out]; exact HM3.out.more (by omega)
      case rest => as_aux_lemma =>
        obtain ⟨v4, e9⟩ : ∃ y, y = u9 := ⟨_, rfl⟩
        obtain ⟨wc4, ec⟩ : ∃ y, y = wc := ⟨_, rfl⟩
        subst e9 ec
        have HM4 : Hid (Mid w (b, A, M, D, N, I) 4 X4 v4 wc4) := hcut
        clear hcut HM3
        obtain ⟨c0, c1, c2, c3, c4, c5⟩ := HM4.out.box.six
        go_upto_region 8 with fail
        obtain ⟨y, hy⟩ : ∃ y : Bool, (I && decide (0 < n)) = y := ⟨_, rfl⟩
        have HY : Hid ((I && decide (0 < n)) = y) := hy
        clear hy
        go_cut [9, 51] from 10 (fun y9 y51 wz => y9 = v4 ∧ y51 = .bool y ∧ wz = wc4)
        case first => as_aux_lemma =>
          cases I
          · go_wp2
            go_meet
            case rel => exact ⟨rfl, congrArg Value.bool (by rw [← HY.out]; simp), rfl⟩
          · go_wp2
            go_meet
            case rel => exact ⟨rfl, congrArg Value.bool (by rw [← HY.out]; simp), rfl⟩
        case rest => as_aux_lemma =>
          obtain ⟨rfl, rfl, rfl⟩ := hcut
          obtain ⟨v4, e9⟩ : ∃ y, y = u9 := ⟨_, rfl⟩
          obtain ⟨wc4, ec⟩ : ∃ y, y = wc := ⟨_, rfl⟩
          subst e9 ec
          go_upto_if 51 with fail
          obtain ⟨X5, hX5⟩ : ∃ X : List Ph, X = X4 ++ if I = true ∧ 0 < L.length then [(N, L, 0, 0)] else [] := ⟨_, rfl⟩
          have HX5 : Hid (X5 = X4 ++ if I = true ∧ 0 < L.length then [(N, L, 0, 0)] else []) := hX5
          clear hX5
          go_cut [9] from 10 (fun v wc => Hid (Mid w (b, A, M, D, N, I) 5 X5 v wc))
          case first => as_aux_lemma =>
            by_cases hA : I = true ∧ 0 < L.length
            · have hE : Hid (X5 = X4 ++ [(N, L, 0, 0)]) := by rw [Hid, HX5.out, if_pos hA]
              obtain ⟨rfl, hl0⟩ := hA
              have hnl : 0 < n := by rw [← HC.out.1]; exact hl0
              have hyt : y = true := by rw [← HY.out, decide_eq_true hnl]; rfl
              subst hyt
              have S0 : wc4.drew.cell? ⟨w.heap.size, 4, none⟩ = some (.int .i64 N) := HM4.out.box.six.2.2.2.2.1
              go_wp2_with fail
              go_region_held3 (fun z => z.cell? ⟨w.heap.size, 4, none⟩ = some (.int .i64 N)) (first | exact S0 | exact s1 | exact s2 | exact s3)
                (first | (go_at_call 87; refine (tclone_any a n c L _ (HC.out.below HM4.out.drew.old) hn).mono ?_; rintro e w1 ⟨bv, rfl, ho, b1⟩; obtain ⟨xa, xc, rfl⟩ := own_slice ho; obtain ⟨qs, hl, hown, hnews, hone, hsz, ⟨x1, x2⟩, hnext⟩ := Mid.laid HM4.out.drew b1 (p := (N, L, 0, 0)) (ho.below (Below.refl _ _) HM4.out.drew.old.size); (have s1 := x1.six.2.2.2.2.1); (have s2 := x2.six.2.2.2.2.1)) | (refine step_append_lies _ rfl (.tmp 52) (.tmp 58) 28 rfl w.heap.size 49 i0 (.agg #[.int .i64 0, .slice none 0 0, .int .i64 0, .int .i64 0]) 4 48 Tryz.underlying28 hi hz0 hz1 hz2 rfl (by decide) v4 qs.length (rowC qs) (by simp [Act.eval]) hown ⟨w1.heap.size, 0, none⟩ 1 1 (phC (.slice xa L.length xc) (N, L, 0, 0)) (by simp [Act.eval]) rfl hnews hone (by decide) (by unfold maxLen; omega) (by omega) (by simp; omega) (w1.heap.size + 1) (by simp) ?_; intro g cap w2 hown2 hgrow hat hlt; (have m2 := hnext g cap w2 hown2 hgrow); (have s3 := m2.box.six.2.2.2.2.1)))
              go_wp2_with fail
              go_meet
              case rel => rw [hE.out]; exact m2
            · have hE : Hid (X5 = X4) := by rw [Hid, HX5.out, if_neg hA, List.append_nil]
              have hyf : y = false := by
                rw [← HY.out]
                cases I
                · rfl
                · have := HC.out.1
                  have : ¬ 0 < L.length := fun h => hA ⟨rfl, h⟩
                  rw [decide_eq_false (by omega)]; rfl
              subst hyf
              go_wp2_with fail
              go_meet
              case rel => rw [hE.out]; exact HM4.out.more (by omega)
          case rest => as_aux_lemma =>
            obtain ⟨v5, e9⟩ : ∃ y, y = u9 := ⟨_, rfl⟩
            obtain ⟨wc5, ec⟩ : ∃ y, y = wc := ⟨_, rfl⟩
            subst e9 ec
            have HM5 : Hid (Mid w (b, A, M, D, N, I) 5 X5 v5 wc5) := hcut
            clear hcut HM4
            obtain ⟨c0, c1, c2, c3, c4, c5⟩ := HM5.out.box.six
            go_upto_if 61 with fail
            obtain ⟨X6, hX6⟩ : ∃ X : List Ph, X = X5 ++ if 0 < r then [(N, [], 0, r)] else [] := ⟨_, rfl⟩
            have HX6 : Hid (X6 = X5 ++ if 0 < r then [(N, [], 0, r)] else []) := hX6
            clear hX6
            go_cut [9] from 10 (fun v wc => Hid (Mid w (b, A, M, D, N, I) 6 X6 v wc))
            case first => as_aux_lemma =>
              by_cases hA : 0 < r
              · have hE : Hid (X6 = X5 ++ [(N, [], 0, r)]) := by rw [Hid, HX6.out, if_pos hA]
                obtain ⟨c0, c1, c2, c3, c4, c5⟩ := HM5.out.box.six
                obtain ⟨qs, hl, hown, hnews, hone, hsz, -, hnext⟩ := Mid.laid HM5.out (Below.refl _ _) (p := (N, [], 0, r)) (World.ownsRow_nil _ _ _ _)
                have HN : Hid (∀ g cap w2, _ → _ → Mid w (b, A, M, D, N, I) 6 (X5 ++ [(N, [], 0, r)]) (.slice (some ⟨g, 0, none⟩) (qs.length + 1) cap) w2) := hnext
                go_wp2_with (at_builtin; refine wpList_append_lies _ rfl _ _ 28 rfl w.heap.size 49 i0 (.agg #[.int .i64 0, .slice none 0 0, .int .i64 0, .int .i64 0]) 4 48 Tryz.underlying28 hi hz0 hz1 hz2 rfl (by decide) _ qs.length (rowC qs) rfl hown ⟨wc5.heap.size, 0, none⟩ 1 1 (phC (.slice none 0 0) (N, [], 0, r)) rfl rfl hnews hone (by decide) (by unfold maxLen; omega) (by omega) (by simp; omega) (wc5.heap.size + 1) (by simp) ?_)
                intro g cap w2 hown2 hgrow hat hlt
                have m2 : Hid (Mid w (b, A, M, D, N, I) 6 (X5 ++ [(N, [], 0, r)]) (.slice (some ⟨g, 0, none⟩) (qs.length + 1) cap) w2) := HN.out g cap w2 hown2 hgrow
                clear hown2 hgrow hat hlt HN hnext hown hnews hone
                go_wp2_with fail
                go_meet
                case rel => rw [hE.out]; exact m2
              · have hE : Hid (X6 = X5) := by rw [Hid, HX6.out, if_neg hA, List.append_nil]
                go_wp2_with fail
                go_meet
                case rel => rw [hE.out]; exact HM5.out.more (by omega)
            case rest => as_aux_lemma =>
              obtain ⟨v6, e9⟩ : ∃ y, y = u9 := ⟨_, rfl⟩
              obtain ⟨wc6, ec⟩ : ∃ y, y = wc := ⟨_, rfl⟩
              subst e9 ec
              have HM6 : Hid (Mid w (b, A, M, D, N, I) 6 X6 v6 wc6) := hcut
              clear hcut HM5
              obtain ⟨c0, c1, c2, c3, c4, c5⟩ := HM6.out.box.six
              have HF : Hid (X6 = phL (b, A, M, D, N, I) k L r) := by
                rw [Hid, HX6.out, HX5.out, HX4.out, HX3.out, HX2.out, HX1.out]; rfl
              go_wp2
              go_ret
              obtain ⟨qs, hp, hX, -, -, hB⟩ := HM6.out
              exact ⟨_, rfl, qs, hp, hX.trans HF.out, hB⟩
end Go.Proofs.YtjhjghakfedeeaaGreat
