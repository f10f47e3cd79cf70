/-
  What the law on registers and queues wants: plain facts. Nothing of the program is named.
-/
import Derived.Test.YtjhjghakfedeeaaGreatCtlNil
namespace Go.Proofs.YtjhjghakfedeeaaGreat
open Go.RowKit Plain
set_option linter.unusedVariables false

theorem like_rest {s : St} (h : s.Rest) : s.like.Rest := ⟨⟨h.idle.sel, h.idle.goes, h.idle.k⟩, h.left, h.sus⟩
theorem say_sfdp {s : St} (h : s.Rest) (a : Nat) (ha : a < 4096) (m : Nat) : s.say ((wordL [90, 0, a / 256, a % 256] ++ List.replicate 8 15) ++ List.replicate (8 * m) 15) = s ∨ s.say ((wordL [90, 0, a / 256, a % 256] ++ List.replicate 8 15) ++ List.replicate (8 * m) 15) = s.like := by
  unfold St.say
  rw [select_idle h.idle, List.append_assoc, run_head h 90 (by decide) (by decide) rfl 0 (a / 256) (a % 256) (by decide) (by omega) (by omega), adr_word a ha, run_append,
    run_dummy (s := s.picked) (k := addrK (opOf 90) a) (rest_picked h) rfl rfl rfl rfl (List.replicate 8 15) (by simp [addrK, opOf]) (show 0 < 8 by decide)]
  dsimp only
  have hp : (addrK (opOf 90) a).turn.part = 4 := by
    have h1 : nextPart (opOf 90) 1 = 3 := by decide
    have h2 : nextPart (opOf 90) 3 = 4 := by decide
    unfold Cmd.turn addrK
    dsimp only
    rw [h1, h2]
  have hsp : (addrK (opOf 90) a).turn.speaks = true := by unfold Cmd.speaks; rw [hp]; rfl
  obtain ⟨s', k', h1, h2, h3, h4⟩ := run_outs (s := s.picked) (k := (addrK (opOf 90) a).turn) (rest_picked h) rfl hsp (split_one hp rfl) rfl m (List.replicate (8 * m) 15) (by simp)
  rw [h1]
  dsimp only
  have hm : k'.mode ≠ 160 := by rw [h4]; show (0 : Nat) ≠ 160; decide
  have ho : ∀ t : St, t.obey k' = t := fun t => obey_other t k' (by rw [h3]; exact (by decide : (90 : Nat) ≠ 6 ∧ (90 : Nat) ≠ 4 ∧ (90 : Nat) ≠ 117 ∧ (90 : Nat) ≠ 122 ∧ (90 : Nat) ≠ 1 ∧ (90 : Nat) ≠ 2 ∧ (90 : Nat) ≠ 32))
  rcases h2 with h2 | h2
  · left
    rw [h2, deselect_idle h.idle _ hm, ho]
    split <;> rfl
  · right
    have e : s.picked.lk (addrK (opOf 90) a).turn.op.byte = s.like.picked := by
      show s.picked.lk 90 = _
      unfold St.lk
      rw [if_pos rfl]
      rfl
    rw [h2, e, deselect_idle (like_rest h).idle _ hm, ho]
    split <;> rfl
theorem kp_sfdp {k : K} (hb : k.bounded = false) (hl : k.lost = false) (hg : k.goes = false) (h : k.s.Rest) (a m : Nat) (ha : a < 4096) (hm : m ≤ 512) :
    ∃ s', (s' = k.s ∨ s' = k.s.like) ∧ k.runs 90 a [] m = (k.ran s' (40 + 8 * m) false, numI ((List.range m).map fun i => (ub sfdpT ((a + i) % 32)).toNat), 0) := by
  obtain ⟨hr, hf⟩ := row_sfdp a m ha hm
  have hi : insR ((headP 90 ++ addrP 1 a ++ [(0, [], 8, 0)]) ++ readPh 1 m) = (wordL [90, 0, a / 256, a % 256] ++ List.replicate 8 15) ++ List.replicate (8 * m) 15 := by
    rw [insR_app, insR_app, insR_app, headP_ins 90 (by decide), addrP_ins1 a ha, readPh_ins, bc_one, Nat.mul_comm m 8]
    have := idleP_ins 8 (by decide)
    rw [show (((8 : Nat) : Int)) = 8 from rfl] at this
    rw [this]
    rfl
  have hn : nR ((headP 90 ++ addrP 1 a ++ [(0, [], 8, 0)]) ++ readPh 1 m) = 40 + 8 * m := by
    rw [nR_app, readPh_n, bc_one, Nat.mul_comm m 8]; rfl
  have e := rd_one (headP 90 ++ addrP 1 a ++ [(0, [], 8, 0)]) (pre_app (pre_app (pre_head 90) (pre_addr 1 a)) (pre_idle 8)) m ((List.range m).map fun i => (ub sfdpT ((a + i) % 32)).toNat) (by intro x hx; obtain ⟨i, _, rfl⟩ := List.mem_map.1 hx; exact (ub sfdpT _).toNat_lt) (by simp) (List.replicate 40 15) (by rw [List.length_replicate]; rfl)
  refine ⟨_, say_sfdp h a ha m, ?_⟩
  rw [runs_free hb hl hg hf, hr, hi, hn, hears_sfdp h a ha m, e]
  rfl
theorem status_same (s : St) (m : Nat) : plainV s.like 5 m = plainV s.like 5 m := rfl
/-- A command that reads, over and over: the same bytes. -/
theorem goes_cmd (A : ByteArray) (I : Nat) (hI : I < 5) (k m : Nat) (hk : k < 4096) (hm : m < 16) : ∃ (b z : Int) (P : St → Prop) (V : List Int) (N : Nat),
    b = [159, 3, 5, 90, 53].getD I 0 ∧ z = (if b = 3 ∨ b = 90 then (k : Int) else 0) ∧ P (newSt A) ∧ V.length = m ∧ N ≤ 1000 ∧ (0 ≤ b ∧ b < 4096) ∧ (0 ≤ z ∧ z < 4096) ∧
    ∀ q : K, P q.s → q.bounded = false → q.lost = false → q.goes = false → ∃ s', P s' ∧ q.runs b z [] m = (q.ran s' N false, V, 0) := by
  have hr := rest_new A
  rcases (show I = 0 ∨ I = 1 ∨ I = 2 ∨ I = 3 ∨ I = 4 by omega) with rfl | rfl | rfl | rfl | rfl
  · exact ⟨159, 0, fun s => s = newSt A, plainV (newSt A) 159 m, 8 + 8 * m, rfl, rfl, rfl, plainV_len hr 159 (.inl rfl) m (by omega), by omega, by omega, by omega, fun q hq h1 h2 h3 => ⟨q.s, hq, by
      have := kp_plain h1 h2 h3 (by rw [hq]; exact hr) 159 (.inl rfl) m (by omega)
      rw [show plainV q.s 159 m = plainV (newSt A) 159 m by rw [hq]] at this
      exact this⟩⟩
  · exact ⟨3, k, fun s => s = newSt A, numI (bytesOf A k m), 32 + 8 * m, rfl, rfl, rfl, by rw [numI_length, bytesOf_length], by omega, by omega, by omega, fun q hq h1 h2 h3 => ⟨q.s, hq, kp_read h1 h2 h3 (by rw [hq]; exact hr) (by rw [hq]; rfl) k m hk (by omega)⟩⟩
  · exact ⟨5, 0, fun s => s = newSt A, plainV (newSt A) 5 m, 8 + 8 * m, rfl, rfl, rfl, plainV_len hr 5 (.inr (.inl rfl)) m (by omega), by omega, by omega, by omega, fun q hq h1 h2 h3 => ⟨q.s, hq, by
      have := kp_plain h1 h2 h3 (by rw [hq]; exact hr) 5 (.inr (.inl rfl)) m (by omega)
      rw [show plainV q.s 5 m = plainV (newSt A) 5 m by rw [hq]] at this
      exact this⟩⟩
  · refine ⟨90, k, fun s => s = newSt A ∨ s = (newSt A).like, numI ((List.range m).map fun i => (ub sfdpT ((k + i) % 32)).toNat), 40 + 8 * m, rfl, rfl, .inl rfl, by rw [numI_length]; simp, by omega, by omega, by omega, fun q hq h1 h2 h3 => ?_⟩
    have hqr : q.s.Rest := by rcases hq with h | h <;> rw [h]; exact hr; exact like_rest hr
    obtain ⟨s', hs', e⟩ := kp_sfdp h1 h2 h3 hqr k m hk (by omega)
    refine ⟨s', ?_, e⟩
    rcases hs' with rfl | rfl
    · exact hq
    · rcases hq with h | h <;> rw [h]
      · exact .inr rfl
      · exact .inr rfl
  · exact ⟨53, 0, fun s => s = newSt A, plainV (newSt A) 53 m, 8 + 8 * m, rfl, rfl, rfl, plainV_len hr 53 (.inr (.inr rfl)) m (by omega), by omega, by omega, by omega, fun q hq h1 h2 h3 => ⟨q.s, hq, by
      have := kp_plain h1 h2 h3 (by rw [hq]; exact hr) 53 (.inr (.inr rfl)) m (by omega)
      rw [show plainV q.s 53 m = plainV (newSt A) 53 m by rw [hq]] at this
      exact this⟩⟩
/-- Its registers told, its second queue. -/
def kg (s : St) (b z m : Int) (rx : List Int) (c : Nat) : K := ⟨s, b, z, m, [], rx, false, false, c, false, 0, false⟩
theorem pushAll_app (V : List Int) : ∀ rx : List Int, rx.length + V.length ≤ 16 → pushAll rx V = rx ++ V := by
  induction V with
  | nil => intro rx _; show rx = _; rw [List.append_nil]
  | cons x V ih =>
    intro rx h
    rw [List.length_cons] at h
    show pushAll (pushL rx x) V = _
    have e : pushL rx x = rx ++ [x] := by unfold pushL; rw [if_pos (by omega)]
    rw [e, ih _ (by rw [List.length_append, List.length_singleton]; omega), List.append_assoc]; rfl
theorem kg_go {P : St → Prop} {b z : Int} {m N : Nat} {V : List Int} (hV : V.length = m) (hR : ∀ q : K, P q.s → q.bounded = false → q.lost = false → q.goes = false → ∃ s', P s' ∧ q.runs b z [] m = (q.ran s' N false, V, 0)) (s : St) (hs : P s) (rx : List Int) (c : Nat) (h : rx.length + m ≤ 16) :
    ∃ s', P s' ∧ (kg s b z m rx c).go = (kg s' b z m (rx ++ V) (c + N), 0) := by
  obtain ⟨s', h1, h2⟩ := hR (kg s b z m rx c) hs rfl rfl rfl
  refine ⟨s', h1, ?_⟩
  rw [go_yes rfl (by show ((rx.length : Nat) : Int) + (m : Int) ≤ 16; omega) (by decide) h2]
  show ((⟨s', b, z, m, [], pushAll rx V, false, false, c + N, false, 0, false⟩ : K), (0 : Int)) = _
  rw [pushAll_app V rx (by omega)]
  rfl
theorem goes_all (A : ByteArray) (I : Nat) (hI : I < 5) (k m : Nat) (hk : k < 4096) (hm : m < 16) : ∃ (b z : Int) (P : St → Prop) (V : List Int) (N C2 : Nat) (s1 s2 : St),
    b = [159, 3, 5, 90, 53].getD I 0 ∧ z = (if b = 3 ∨ b = 90 then (k : Int) else 0) ∧ V.length = m ∧
    Hid ((newK (newSt A)).runs b z [] m = (kg s1 0 0 0 [] N, V, 0)) ∧ Hid ((kg s1 0 0 0 [] N).wr 0 b = (kg s1 b 0 0 [] N, 0)) ∧ Hid ((kg s1 b 0 0 [] N).wr 1 z = (kg s1 b z 0 [] N, 0)) ∧ Hid ((kg s1 b z 0 [] N).wr 2 m = (kg s1 b z m [] N, 0)) ∧
    Hid ((kg s1 b z m [] N).go = (kg s2 b z m V C2, 0)) ∧ Hid ((kg s2 b z m V C2).rd 3 = (kg s2 b z m V C2, (m : Int), 0)) ∧ Hid (2 * (N : Int) = (C2 : Int)) ∧ Hid (wrap64 (C2 : Int) = (C2 : Int)) ∧ Hid (P s2) ∧
    Hid (∀ s (rx : List Int) (c : Nat), P s → rx.length + m ≤ 16 → ∃ s' c', P s' ∧ (kg s b z m rx c).go = (kg s' b z m (rx ++ V) c', 0)) := by
  obtain ⟨b, z, P, V, N, hb, hz, hP, hV, hN, hbb, hzb, hR⟩ := goes_cmd A I hI k m hk hm
  obtain ⟨s1, p1, e1⟩ := hR (newK (newSt A)) hP rfl rfl rfl
  obtain ⟨s2, p2, e2⟩ := kg_go hV hR s1 p1 [] N (by show 0 + m ≤ 16; omega)
  have e1' : (newK (newSt A)).runs b z [] m = (kg s1 0 0 0 [] N, V, 0) := by
    rw [e1]
    show ((⟨s1, 0, 0, 0, [], [], false, false, 0 + N, false, 0, false⟩ : K), V, (0 : Int)) = _
    rw [Nat.zero_add]; rfl
  refine ⟨b, z, P, V, N, N + N, s1, s2, hb, hz, hV, e1', K.wr_reg rfl (.inl rfl) hbb.1 hbb.2, K.wr_reg rfl (.inr (.inl rfl)) hzb.1 hzb.2, K.wr_reg rfl (.inr (.inr rfl)) (by omega) (by show (m : Int) < 17; omega), e2, ?_, by unfold Hid; omega, IntWalk.wrap64_in _ (by omega), p2, fun s rx c hs hl => ?_⟩
  · show ((kg s2 b z m V (N + N)), ((V.length : Nat) : Int), (0 : Int)) = _
    rw [hV]
  · obtain ⟨s', q1, q2⟩ := kg_go hV hR s hs rx c hl
    exact ⟨s', _, q1, q2⟩
end Go.Proofs.YtjhjghakfedeeaaGreat
