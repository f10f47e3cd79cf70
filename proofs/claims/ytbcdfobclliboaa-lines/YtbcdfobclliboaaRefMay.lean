/-
  The document's own CacheMay, by a contract for every cache that came in. Condition: its lists are no longer than a list that is read may be.
-/
import Derived.Test.YtbcdfobclliboaaAsks
namespace Go.Proofs.Ytbcdfobclliboaa
open Go.RowKit Plain
set_option linter.unusedVariables false

theorem CR.two {w : World} {c : Value} {A : List Int} {T : List ByteArray} {x : Int} (h : CR w c A T x) (hA2 : A.length = 2) (hT2 : T.length = 2) :
    ∃ ga oa c1 gb ob c2, c = .agg #[.slice (some ⟨ga, oa, none⟩) 2 c1, .slice (some ⟨gb, ob, none⟩) 2 c2, .int .i64 x] ∧
      (∀ j, j < 2 → w.cell? ⟨ga, oa + j, none⟩ = some (.int .i64 (A.getD j 0))) ∧ (∀ j, j < 2 → w.cell? ⟨gb, ob + j, none⟩ = some (.string (T.getD j ByteArray.empty))) := by
  obtain ⟨a, t, rfl, ⟨q1, p1, rfl, h1⟩, ⟨q2, p2, rfl, h2⟩⟩ := h
  obtain ⟨ga, oa, rfl, h3⟩ := h1 (by rw [List.length_map]; omega)
  obtain ⟨gb, ob, rfl, h4⟩ := h2 (by rw [List.length_map]; omega)
  rw [List.length_map, List.length_map, hA2, hT2]
  exact ⟨ga, oa, p1, gb, ob, p2, rfl, fun j hj => h3 j _ (ints_at (by omega)), fun j hj => h4 j _ (txts_at (by omega))⟩
/-- A cache's box, and the rows that it names: two lines. -/
structure Bx (z : World) (b ga oa c1 gb ob c2 : Nat) (A : List Int) (T : List ByteArray) (x : Int) : Prop where
  box : Blk z b 25 [.slice (some ⟨ga, oa, none⟩) 2 c1, .slice (some ⟨gb, ob, none⟩) 2 c2, .int .i64 x]
  ats : ∀ j, j < 2 → z.cell? ⟨ga, oa + j, none⟩ = some (.int .i64 (A.getD j 0))
  texts : ∀ j, j < 2 → z.cell? ⟨gb, ob + j, none⟩ = some (.string (T.getD j ByteArray.empty))
theorem Bx.below {z z' : World} {b ga oa c1 gb ob c2 : Nat} {A : List Int} {T : List ByteArray} {x : Int} (h : Bx z b ga oa c1 gb ob c2 A T x) (k : Below z.heap.size z z') : Bx z' b ga oa c1 gb ob c2 A T x :=
  ⟨h.box.below k, fun j hj => (k.cell (by exact cell_lt (h.ats j hj))).trans (h.ats j hj), fun j hj => (k.cell (by exact cell_lt (h.texts j hj))).trans (h.texts j hj)⟩
theorem may_lens {A : List Int} {T : List ByteArray} {x : Int} (h : mayB A T x = true) : A.length = 2 ∧ T.length = 2 ∧ 0 ≤ x ∧ x < 2 ∧ liB A T 0 = true ∧ liB A T 1 = true := by
  unfold mayB at h
  simp at h
  exact ⟨h.1.1.1.1.1, h.1.1.1.1.2, h.1.1.1.2, h.1.1.2, h.1.2, h.2⟩

set_option maxRecDepth 100000 in
set_option maxHeartbeats 4000000 in
theorem refMay_two (c : Value) (A : List Int) (T : List ByteArray) (x : Int) (w : World) (h : CR w c A T x) (hA2 : A.length = 2) (hT2 : T.length = 2) (h0 : 0 ≤ x) (h1 : x < 2) (hs : ∀ t ∈ T, t.size ≤ maxLen) :
    Calls Try.prog 16 #[c] w fun e w' => e = .returned (.bool (mayB A T x)) ∧ Below w.heap.size w w' := by
  obtain ⟨ga, oa, c1, gb, ob, c2, rfl, ha, ht⟩ := h.two hA2 hT2
  have HX : Hid (Bx (w.alloc (.cells #[.slice (some ⟨ga, oa, none⟩) 2 c1, .slice (some ⟨gb, ob, none⟩) 2 c2, .int .i64 x] 25)) w.heap.size ga oa c1 gb ob c2 A T x) :=
    ⟨Blk.new _ _ _ _ rfl, fun j hj => ((below_new w _).cell (by exact cell_lt (ha j hj))).trans (ha j hj), fun j hj => ((below_new w _).cell (by exact cell_lt (ht j hj))).trans (ht j hj)⟩
  have HB : Hid (Below w.heap.size w (w.alloc (.cells #[.slice (some ⟨ga, oa, none⟩) 2 c1, .slice (some ⟨gb, ob, none⟩) 2 c2, .int .i64 x] 25))) := below_new _ _
  have HA2 : Hid (A.length = 2) := hA2
  have HT2 : Hid (T.length = 2) := hT2
  have HS : Hid (∀ t ∈ T, t.size ≤ maxLen) := hs
  have HR : Hid (0 ≤ x ∧ x < 2) := ⟨h0, h1⟩
  clear h ha ht hA2 hT2 hs
  go_enter Try.func16, Try.ntmps16
  go_upto_region 3 with fail
  generalize (w.alloc (.cells #[.slice (some ⟨ga, oa, none⟩) 2 c1, .slice (some ⟨gb, ob, none⟩) 2 c2, .int .i64 x] 25)) = W at HX HB ⊢
  clear h0 h1
  go_wp2_with fail
  go_loopw [3] (fun i wr => ∃ k : Nat, k ≤ 2 ∧ i = .int .i64 k ∧ Hid (Below W.heap.size W wr) ∧ Hid (∀ j, j < k → liB A T j = true)) (fun i _ => 2 - (intOf i).toNat)
  case atStart => exact ⟨0, by omega, rfl, Below.refl _ _, fun j hj => by omega⟩
  case round =>
    obtain ⟨k, hk, rfl, HW, HL⟩ := hrel
    by_cases hlt : k < 2
    · obtain ⟨y, hy⟩ : ∃ y, y = A.getD k 0 := ⟨_, rfl⟩
      obtain ⟨t, ht⟩ : ∃ t, t = T.getD k ByteArray.empty := ⟨_, rfl⟩
      have HY : Hid (y = A.getD k 0) := hy
      have HT : Hid (t = T.getD k ByteArray.empty) := ht
      have X1 := HX.out.below HW.out
      have ca : wr.cell? ⟨ga, oa + k, none⟩ = some (.int .i64 y) := by rw [hy]; exact X1.ats k hlt
      have ct : wr.cell? ⟨gb, ob + k, none⟩ = some (.string t) := by rw [ht]; exact X1.texts k hlt
      have cb0 := X1.box.cell 0 rfl
      have cb1 := X1.box.cell 1 rfl
      have hts : t.size ≤ maxLen := by
        rw [ht]
        exact HS.out _ (by rw [List.getD_eq_getElem?_getD, List.getElem?_eq_getElem (by have := HT2.out; omega)]; exact List.getElem_mem _)
      have hk0 : (0 : Int) ≤ k := by omega
      have hk2 : (k : Int) < 2 := by omega
      have HM : Hid (liB A T k = (emB y t || (whB y t && !(decide (y ∈ A.take k))))) := by rw [Hid, hy, ht]; rfl
      clear hy ht X1
      go_upto_region 6 with fail
      go_cut [42] from 29 to 74 (fun v z => Hid (v = .bool (emB y t)) ∧ Hid (z = wr))
      case first => as_aux_lemma =>
        have HE : Hid (t.toList.isEmpty = decide (t = ByteArray.empty)) := isEmpty_is t
        by_cases h1 : y = -1
        · subst h1
          go_wp2_with fail
          all_goals go_meet
          case rel => exact ⟨by rw [Hid]; simp [emB, HE.out], rfl⟩
        · have e1 : (y == -1) = false := by simpa using h1
          go_wp2_with fail
          all_goals go_meet
          case rel => exact ⟨by rw [Hid]; simp [emB, h1], rfl⟩
      case rest =>
        obtain ⟨Hv, Hz⟩ := hcut
        obtain ⟨E, HE⟩ : ∃ E, Hid (emB y t = E) := ⟨_, rfl⟩
        have e42 := Hv.out
        rw [HE.out] at e42
        have ez := Hz.out
        subst e42 ez
        clear Hv Hz
        cases E
        · go_upto_region 7 with fail
          go_cut [58] from 43 to 74 (fun v z => Hid (v = .bool (!(whB y t))) ∧ Hid (z = wc))
          case first => as_aux_lemma =>
            cases hW : atB y with
            | true =>
              by_cases h16 : t.size = 16
              · have e1 : ((t.size : Int) != 16) = false := by simp [h16]
                go_wp2_with (go_at_call 26; refine (lineAt_any y _).mono ?_; rintro e w' ⟨rfl, rfl⟩; rw [hW])
                all_goals go_meet
                case rel => exact ⟨by rw [Hid]; simp [whB, hW, h16], rfl⟩
              · have e1 : ((t.size : Int) != 16) = true := by simpa using (by omega : ¬ (t.size : Int) = 16)
                go_wp2_with (go_at_call 26; refine (lineAt_any y _).mono ?_; rintro e w' ⟨rfl, rfl⟩; rw [hW])
                all_goals go_meet
                case rel => exact ⟨by rw [Hid]; simp [whB, hW, h16], rfl⟩
            | false =>
              go_wp2_with (go_at_call 26; refine (lineAt_any y _).mono ?_; rintro e w' ⟨rfl, rfl⟩; rw [hW])
              all_goals go_meet
              case rel => exact ⟨by rw [Hid]; simp [whB, hW], rfl⟩
          case rest =>
            obtain ⟨Hv, Hz⟩ := hcut
            obtain ⟨V, HV⟩ : ∃ V, Hid (whB y t = V) := ⟨_, rfl⟩
            have e58 := Hv.out
            rw [HV.out] at e58
            have ez := Hz.out
            subst e58 ez
            clear Hv Hz
            have HNo : Hid (liB A T k = false → mayB A T x = false) := fun h => may_no hlt h
            cases V
            · as_aux_lemma =>
              go_wp2_with fail
              go_ret
              exact ⟨ret_bool (HNo.out (by rw [HM.out, HE.out, HV.out]; rfl)).symm, below_then HB.out HW.out⟩
            · rcases (show k = 0 ∨ k = 1 by omega) with rfl | rfl
              · as_aux_lemma =>
                have HK : Hid (liB A T 0 = true) := by rw [Hid, HM.out, HE.out, HV.out]; simp
                clear HM HNo
                go_wp2_with fail
                refine wp_loop_rounds 1 ?_
                rw [rounds_succ]
                go_wp2_with fail
                go_roundw
                case rel => exact ⟨1, by omega, by go_num, HW, fun j hj => by
                  obtain rfl : j = 0 := by omega
                  exact HK.out⟩
                case measure => simp [intOf]
              · obtain ⟨z, hz⟩ : ∃ z, z = A.getD 0 0 := ⟨_, rfl⟩
                have HZ : Hid (z = A.getD 0 0) := hz
                have cz := (HX.out.below HW.out).ats 0 (by omega)
                rw [← hz, Nat.add_zero] at cz
                have HT1 : Hid (A.take 1 = [z]) := by
                  rw [Hid, hz]
                  have := HA2.out
                  match A, this with
                  | [a, b], _ => rfl
                clear hz
                by_cases hzy : z = y
                · as_aux_lemma =>
                  have e1 : (z == y) = true := by simpa using hzy
                  go_wp2_with fail
                  refine wp_loop_rounds 2 ?_
                  rw [rounds_succ]
                  go_wp2_with fail
                  go_quiet (fail)
                  all_goals go_wp2_with fail
                  all_goals go_ret
                  all_goals exact ⟨ret_bool (HNo.out (by rw [HM.out, HE.out, HV.out, HT1.out, hzy]; simp)).symm, below_then HB.out (below_drewN HW.out _)⟩
                · as_aux_lemma =>
                  have e1 : (z == y) = false := by simpa using hzy
                  have HK : Hid (liB A T 1 = true) := by
                    have hyz : ¬ y = z := fun h => hzy h.symm
                    rw [Hid, HM.out, HE.out, HV.out, HT1.out]; simp [hyz]
                  clear HM HNo
                  go_wp2_with fail
                  refine wp_loop_rounds 2 ?_
                  rw [rounds_succ]
                  go_wp2_with fail
                  go_quiet (fail)
                  all_goals go_wp2_with fail
                  all_goals rw [rounds_succ]
                  all_goals go_wp2_with fail
                  all_goals go_roundw
                  case rel => exact ⟨2, by omega, by go_num, below_drewN HW.out _, fun j hj => by
                    rcases (show j = 0 ∨ j = 1 by omega) with rfl | rfl
                    · exact HL.out 0 (by omega)
                    · exact HK.out⟩
                  case measure => simp [intOf]
        · as_aux_lemma =>
          have HK : Hid (liB A T k = true) := by rw [Hid, HM.out, HE.out]; rfl
          go_wp2_with fail
          go_roundw
          case rel => exact ⟨k + 1, by omega, by go_num, HW, fun j hj => by
            rcases Nat.lt_or_eq_of_le (Nat.le_of_lt_succ hj) with h | rfl
            · exact HL.out j h
            · exact HK.out⟩
          case measure => simp [intOf]; omega
    · have HX1 : Hid (mayB A T x = true) := may_yes HA2.out HT2.out HR.out.1 HR.out.2 (fun j hj => HL.out j (by omega))
      go_wp2_with fail
      go_ret
      exact ⟨ret_bool HX1.out.symm, below_then HB.out HW.out⟩
end Go.Proofs.Ytbcdfobclliboaa
