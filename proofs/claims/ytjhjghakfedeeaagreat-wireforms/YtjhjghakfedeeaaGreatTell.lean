/-
  What the chip tells: its status, the bytes that come, a clock's bits: each by a contract. Conditions: the chip lies in memory as told and is one that may be.
-/
import Derived.Test.YtjhjghakfedeeaaGreatHear
import Derived.Test.YtjhjghakfedeeaaGreatCalls
namespace Go.Proofs.YtjhjghakfedeeaaGreat
open Go.RowKit Plain
set_option linter.unusedVariables false

/-- What a call that tells the status finds in whatever world. -/
theorem keep_status {b : Nat} {s : St} {ds : Value} {w v v' : World}
    (h : v.cell? ⟨b, 16, none⟩ = some (.bool s.en) ∧ v.cell? ⟨b, 1, none⟩ = some (.bool s.prot) ∧ v.cell? ⟨b, 2, none⟩ = some (.bool s.quad) ∧ v.cell? ⟨b, 17, none⟩ = some (.bool s.sus) ∧ At v b s ds ∧ Below w.heap.size w v) (k : Below v.heap.size v v') :
    v'.cell? ⟨b, 16, none⟩ = some (.bool s.en) ∧ v'.cell? ⟨b, 1, none⟩ = some (.bool s.prot) ∧ v'.cell? ⟨b, 2, none⟩ = some (.bool s.quad) ∧ v'.cell? ⟨b, 17, none⟩ = some (.bool s.sus) ∧ At v' b s ds ∧ Below w.heap.size w v' := by
  have hA : At v' b s ds := Blk.below h.2.2.2.2.1 k
  exact ⟨Blk.cell hA 16 rfl, Blk.cell hA 1 rfl, Blk.cell hA 2 rfl, Blk.cell hA 17 rfl, hA, below_then h.2.2.2.2.2 k⟩
theorem fst_is (s : St) : fst s.busy s.en s.prot = (s.first : Int) := by
  unfold fst St.first one bitIf
  cases s.busy <;> cases s.en <;> cases s.prot <;> rfl
theorem snd_is (s : St) : snd s.quad s.sus = (s.second : Int) := by
  unfold snd St.second one bitIf
  cases s.quad <;> cases s.sus <;> rfl

set_option maxRecDepth 100000 in
set_option maxHeartbeats 1000000 in
theorem status_any (b : Nat) (s : St) (ds : Value) (w : World) (h : At w b s ds) :
    Calls Tryz.prog 65 #[.pointer (some ⟨b, 0, none⟩)] w fun e w' => e = .returned (.tuple #[.int .i64 (s.first : Int), .int .i64 (s.second : Int)]) ∧ Below w.heap.size w w' := by
  have c1 : w.cell? ⟨b, 1, none⟩ = some (.bool s.prot) := Blk.cell h 1 rfl
  have c2 : w.cell? ⟨b, 2, none⟩ = some (.bool s.quad) := Blk.cell h 2 rfl
  have c16 : w.cell? ⟨b, 16, none⟩ = some (.bool s.en) := Blk.cell h 16 rfl
  have c17 : w.cell? ⟨b, 17, none⟩ = some (.bool s.sus) := Blk.cell h 17 rfl
  have S0 : w.drew.cell? ⟨b, 16, none⟩ = some (.bool s.en) ∧ w.drew.cell? ⟨b, 1, none⟩ = some (.bool s.prot) ∧ w.drew.cell? ⟨b, 2, none⟩ = some (.bool s.quad) ∧ w.drew.cell? ⟨b, 17, none⟩ = some (.bool s.sus) ∧ At w.drew b s ds ∧ Below w.heap.size w w.drew := ⟨c16, c1, c2, c17, h, (Below.refl _ _).drew⟩
  rw [← fst_is, ← snd_is]
  go_enter Tryz.func65, Tryz.ntmps65
  go_wp2_with fail
  go_region_held3 (fun v => v.cell? ⟨b, 16, none⟩ = some (.bool s.en) ∧ v.cell? ⟨b, 1, none⟩ = some (.bool s.prot) ∧ v.cell? ⟨b, 2, none⟩ = some (.bool s.quad) ∧ v.cell? ⟨b, 17, none⟩ = some (.bool s.sus) ∧ At v b s ds ∧ Below w.heap.size w v)
    (first | exact S0 | exact keep_status (by assumption) (by assumption))
    (first | (go_at_call 108; refine (busy_any b s ds _ (by simp only [*])).mono ?_; rintro e w' ⟨rfl, b1⟩) | (go_at_call 107; refine (first_any _ _ _ _).mono ?_; rintro e w' ⟨rfl, b1⟩) | (go_at_call 109; refine (second_any _ _ _).mono ?_; rintro e w' ⟨rfl, b1⟩))
  go_wp2
  go_ret2
  refine ⟨rfl, ?_⟩
  simp only [*]

set_option maxHeartbeats 1000000 in
theorem around_any (b o : Nat) (k : Cmd) (t : ByteArray) (w : World) (h : w.rangeAt b o (cmdCells k)) (ht : 0 < t.size) (hm : t.size ≤ 4096) (ha : k.adr < 4096) (hc : k.count < 4611686018427387904) :
    Calls Tryz.prog 150 #[.pointer (some ⟨b, o, none⟩), .string t] w fun e w' => e = .returned (.int .i64 (k.around t : Int)) ∧ ∃ m, w' = w.drewN m := by
  have c9 : w.cell? ⟨b, o + 9, none⟩ = some (.int .i64 (k.adr : Int)) := h 9 _ rfl
  have c11 : w.cell? ⟨b, o + 11, none⟩ = some (.int .i64 (k.count : Int)) := h 11 _ rfl
  have hget := get_ub t
  obtain ⟨K, hK⟩ : ∃ K : Nat, (k.adr + k.count) % t.size = K := ⟨_, rfl⟩
  have hlm : K < t.size := by rw [← hK]; exact Nat.mod_lt _ ht
  have hKi : ((k.adr : Int) + (k.count : Int)) % (t.size : Int) = (K : Int) := by rw [← hK]; simp
  have HK : Hid (k.around t = (ub t K).toNat) := by show _ = _; unfold Cmd.around; rw [hK]
  clear hK
  have hne : (t.toList == []) = false := by rw [beq_eq_false_iff_ne]; intro e; have h0 := isEmpty_iff t; rw [e] at h0; have h1 : t.size = 0 := of_decide_eq_true h0.symm; omega
  go_enter Tryz.func150, Tryz.ntmps150
  go_wp2
  go_region
  go_wp2
  go_ret
  refine ⟨ret_int ?_, 1, rfl⟩
  rw [HK.out]
  exact IntWalk.wrap64_in _ (by have := (ub t K).toNat_lt; omega)
end Go.Proofs.YtjhjghakfedeeaaGreat
