/-
  A row of phases driven on the program's chip: one contract for every row, and what comes of a read; what goes onto the lanes for a row of phases, and what is read: plain facts. Conditions: those of each statement.
-/
import Derived.Test.YtjhjghakfedeeaaGreatTold2
import Derived.Test.YtjhjghakfedeeaaGreatDrive
namespace Go.Proofs.YtjhjghakfedeeaaGreat
open Go.RowKit Plain
set_option linter.unusedVariables false

theorem bytes_lt' {w : World} {g n : Nat} {f : Nat → UInt8} (h : Bytes w g n f) (hn : 0 < n) : g < w.heap.size := cell_lt (h 0 hn).1
theorem bytes_below' {w w' : World} {g n : Nat} {f : Nat → UInt8} (h : Bytes w g n f) (hg : g < w.heap.size) (b : Below w.heap.size w w') : Bytes w' g n f := fun j hj => ⟨(b.cell (by exact hg)).trans (h j hj).1, (b.frozen (by exact hg)).trans (h j hj).2⟩

def whB (ps : List Ph) (most : Int) : Bool := decide (most < 0) || decide ((nR ps : Int) ≤ most)
def endN (ps : List Ph) (most : Int) : Nat := if whB ps most = true then nR ps else most.toNat
def drvS (s : St) (ps : List Ph) (most : Int) : St := if whB ps most = true then (ranS s ps (nR ps)).deselect else ranS s ps most.toNat
def drvL (s : St) (ps : List Ph) (most : Int) : List Int := rdR ps (ranY s ps (endN ps most))
theorem endN_le (ps : List Ph) (most : Int) : endN ps most ≤ nR ps := by
  unfold endN whB
  split
  · exact Nat.le_refl _
  · rename_i h; simp at h; omega
theorem ran_ok {n : Nat} {s : St} (h : s.Ok n) (ps : List Ph) : ∀ j, j ≤ nR ps → (ranS s ps j).Ok (n + j)
  | 0, _ => select_ok h
  | j + 1, hj => by
    obtain ⟨x, hx⟩ : ∃ x, (insR ps)[j]? = some x := ⟨_, List.getElem?_eq_getElem (by rw [insR_length]; omega)⟩
    rw [(ran_succ s ps j x hx).1]
    exact clock_ok (ran_ok h ps j (by omega)) x
theorem drv_ok {n : Nat} {s : St} (h : s.Ok n) (ps : List Ph) (most : Int) : (drvS s ps most).Ok (n + endN ps most) := by
  unfold drvS endN
  by_cases hw : whB ps most = true
  · rw [if_pos hw, if_pos hw]; exact deselect_ok (ran_ok h ps _ (Nat.le_refl _)) _
  · rw [if_neg hw, if_neg hw]
    refine ran_ok h ps _ ?_
    unfold whB at hw; simp at hw; omega
theorem ran_durs (s : St) (ps : List Ph) : ∀ j, j ≤ nR ps → (ranS s ps j).durs = s.durs
  | 0, _ => select_durs s
  | j + 1, hj => by
    obtain ⟨x, hx⟩ : ∃ x, (insR ps)[j]? = some x := ⟨_, List.getElem?_eq_getElem (by rw [insR_length]; omega)⟩
    rw [(ran_succ s ps j x hx).1, clock_durs]
    exact ran_durs s ps j (by omega)

theorem drive_yes (n bp : Nat) (s : St) (ds u : Value) (ps : List Ph) (most : Int) (w : World) (h : At w bp s ds) (hd : Durs w bp ds s.durs) (ho : s.Ok n) (hl : s.sel = false) (hu : PIn (fun g => g < w.heap.size ∧ g ≠ bp) w u ps) (hp : PFit ps) (hok : okR ps = true) (hE : endN ps most ≤ 1000000000000) (hn : n ≤ 1000000000000000) :
    Calls Tryz.prog 17 #[.pointer (some ⟨bp, 0, none⟩), u, .int .i64 most] w fun e w' => ∃ v, e = .returned (.tuple #[v, .int .i64 (endN ps most : Nat), .bool (whB ps most), .int .i64 0]) ∧ Owns w.heap.size w' v (drvL s ps most) ∧ (∃ ds', At w' bp (drvS s ps most) ds' ∧ Durs w' bp ds' (drvS s ps most).durs ∧ ds'.ownBlock = ds.ownBlock) ∧ Only bp w w' := by
  unfold drvL drvS
  by_cases h1 : most < 0
  · have hw : whB ps most = true := by unfold whB; simp [h1]
    have he : endN ps most = nR ps := by unfold endN; rw [if_pos hw]
    rw [hw, he, if_pos rfl]
    rw [he] at hE
    exact drive_free n bp s ds u ps most w h hd ho hl hu hp hok h1 hE hn
  · by_cases h2 : (nR ps : Int) ≤ most
    · have hw : whB ps most = true := by unfold whB; simp [h2]
      have he : endN ps most = nR ps := by unfold endN; rw [if_pos hw]
      rw [hw, he, if_pos rfl]
      rw [he] at hE
      exact drive_whole n bp s ds u ps most w h hd ho hl hu hp hok (by omega) h2 hE hn
    · have hw : whB ps most = false := by unfold whB; simp [h1, h2]
      have he : endN ps most = most.toNat := by unfold endN; rw [if_neg (by rw [hw]; decide)]
      rw [hw, he, if_neg (by decide)]
      rw [he] at hE
      exact drive_cut n bp s ds u ps most w h hd ho hl hu hp hok (by omega) (by omega) hE hn
theorem Lies.at {n b : Nat} {w : World} {s : St} (h : Lies n b w s) : ∃ ds, At w b s ds ∧ Durs w b ds s.durs ∧ s.Ok n := by
  obtain ⟨⟨ds, h1, h2⟩, h3⟩ := h
  exact ⟨ds, h1, h2, h3⟩
/-- A row is driven on a chip that is not selected. -/
theorem run_drive (n b : Nat) (u w : World) (s : St) (v : Value) (ps : List Ph) (most : Int) (h : Hid (Run n b u w s)) (hl : s.sel = false) (hv : PIn (fun g => g ≠ b) w v ps) (hp : PFit ps) (hok : okR ps = true) (hE : endN ps most ≤ 1000000000000) (hn : n ≤ 1000000000000000) :
    Calls Tryz.prog 17 #[.pointer (some ⟨b, 0, none⟩), v, .int .i64 most] w fun e w' => ∃ a c, e = .returned (.tuple #[.slice a (drvL s ps most).length c, .int .i64 (endN ps most : Nat), .bool (whB ps most), .int .i64 0]) ∧ Owns w.heap.size w' (.slice a (drvL s ps most).length c) (drvL s ps most) ∧ Hid (Run (n + endN ps most) b u w' (drvS s ps most)) := by
  obtain ⟨ds, h1, h2, h3⟩ := h.out.lies.at
  refine (drive_yes n b s ds v ps most w h1 h2 h3 hl (hv.mono fun g hg hl => ⟨hl, hg⟩) hp hok hE hn).mono ?_
  rintro e w' ⟨v', rfl, ho, ⟨ds', a1, a2, -⟩, hon⟩
  obtain ⟨a, c, rfl⟩ := own_slice ho
  exact ⟨a, c, rfl, ho, ⟨⟨⟨ds', a1, a2⟩, drv_ok h3 ps most⟩, h.out.only.trans hon⟩⟩
theorem run_drive_form (n b : Nat) (u w : World) (s : St) (v : Value) (ps : List Ph) (most : Int) (h : Hid (Run n b u w s)) (hv : PReads w v ps) (hp : PFit ps) (hok : okR ps = false) :
    Calls Tryz.prog 17 #[.pointer (some ⟨b, 0, none⟩), v, .int .i64 most] w fun e w' => e = .returned (.tuple #[.slice none 0 0, .int .i64 0, .bool false, .int .i64 1000]) ∧ Below w.heap.size w w' ∧ Hid (Run n b u w' s) :=
  (drive_form b v ps most w hv hp hok).mono fun e w' ⟨h1, h2⟩ => ⟨h1, h2, rn_below h h2⟩
theorem run_drive_held (n b : Nat) (u w : World) (s : St) (v : Value) (ps : List Ph) (most : Int) (h : Hid (Run n b u w s)) (hl : s.sel = true) (hv : PReads w v ps) (hp : PFit ps) (hok : okR ps = true) :
    Calls Tryz.prog 17 #[.pointer (some ⟨b, 0, none⟩), v, .int .i64 most] w fun e w' => e = .returned (.tuple #[.slice none 0 0, .int .i64 0, .bool false, .int .i64 1000]) ∧ Below w.heap.size w w' ∧ Hid (Run n b u w' s) := by
  obtain ⟨ds, h1, h2, h3⟩ := h.out.lies.at
  exact (drive_held n b s ds v ps most w h1 hl hv hp hok).mono fun e w' ⟨h1, h2⟩ => ⟨h1, h2, rn_below h h2⟩

/-- What is heard of bytes, lane by lane. -/
theorem hrd_pre (l : Int) (R : List Int) : ∀ (Y : List Nat) (x : List Int) (S : List Int), Y.foldl (hearF l) (x, R ++ S) = ((Y.foldl (hearF l) (x, S)).1, R ++ (Y.foldl (hearF l) (x, S)).2)
  | [], x, S => rfl
  | y :: Y, x, S => by
    rw [List.foldl_cons, List.foldl_cons]
    have e : hearF l (x, R ++ S) y = ((hearF l (x, S) y).1, R ++ (hearF l (x, S) y).2) := by
      unfold hearF
      dsimp only
      split
      · rfl
      · simp [List.append_assoc]
    rw [e]
    exact hrd_pre l R Y _ _
theorem hrd_one : ∀ b : Fin 256, hrd 1 (outB b.val) = ([], [(b.val : Int)]) := by decide +kernel
theorem hrd_four : ∀ b : Fin 256, hrd 4 (halves b.val) = ([], [(b.val : Int)]) := by decide +kernel
theorem hrd_app (l : Int) (Y Z : List Nat) (R : List Int) (h : hrd l Y = ([], R)) : hrd l (Y ++ Z) = ((hrd l Z).1, R ++ (hrd l Z).2) := by
  unfold hrd at h ⊢
  rw [List.foldl_append, h]
  have := hrd_pre l R Z [] []
  rw [List.append_nil] at this
  exact this
theorem hrd_bytes1 : ∀ (L : List Nat), (∀ x ∈ L, x < 256) → hrd 1 (outBs L) = ([], L.map fun x : Nat => (x : Int))
  | [], _ => rfl
  | b :: L, h => by
    have e : outBs (b :: L) = outB b ++ outBs L := by simp [outBs]
    rw [e, hrd_app 1 _ _ _ (hrd_one ⟨b, h b List.mem_cons_self⟩), hrd_bytes1 L fun x hx => h x (List.mem_cons_of_mem _ hx)]
    rfl
theorem hrd_bytes4 : ∀ (L : List Nat), (∀ x ∈ L, x < 256) → hrd 4 (L.flatMap halves) = ([], L.map fun x : Nat => (x : Int))
  | [], _ => rfl
  | b :: L, h => by
    rw [List.flatMap_cons, hrd_app 4 _ _ _ (hrd_four ⟨b, h b List.mem_cons_self⟩), hrd_bytes4 L fun x hx => h x (List.mem_cons_of_mem _ hx)]
    rfl
theorem rdR_last : ∀ (ps : List Ph) (q : Ph) (Y : List Nat), (∀ p ∈ ps, p.2.2.2 ≤ 0) → rdR (ps ++ [q]) Y = rdOf q ((Y.drop (nR ps)).take (nP q))
  | [], q, Y, _ => by simp [rdR, nR]
  | p :: ps, q, Y, h => by
    have h0 : rdOf p (Y.take (nP p)) = [] := by
      unfold rdOf; rw [if_neg (by have := h p List.mem_cons_self; omega)]
    show rdOf p (Y.take (nP p)) ++ rdR (ps ++ [q]) (Y.drop (nP p)) = _
    rw [h0, List.nil_append, rdR_last ps q _ fun x hx => h x (List.mem_cons_of_mem _ hx), List.drop_drop, nR_cons]

theorem rin_lit {Q : Nat → Prop} {w : World} {g n c : Nat} {cs : Array Value} {L : List Int} (h : w.heap[g]? = some (.cells cs 3 (0, 0))) (hc : cs.toList = L.map (Value.int .i64)) (hn : L.length = n) (hq : Q g) : RIn Q w (.slice (some ⟨g, 0, none⟩) n c) L := by
  subst hn
  refine ⟨_, c, rfl, fun h0 => ⟨g, 0, rfl, hq, fun j hj => ?_⟩⟩
  rw [Nat.zero_add, cell_of_row w g j cs 3 (0, 0) h, ← Array.getElem?_toList, hc, List.getElem?_map, List.getD_eq_getElem?_getD, List.getElem?_eq_getElem hj]
  rfl
theorem rin_nil (Q : Nat → Prop) (w : World) : RIn Q w (.slice none 0 0) [] := ⟨none, 0, rfl, fun h => absurd h (by simp)⟩
theorem pin_lit {Q : Nat → Prop} {w : World} {g n c : Nat} {cs : Array Value} (qs : List (Value × Ph)) (h : w.heap[g]? = some (.cells cs 49 (0, 0))) (hc : cs.toList = rowC qs) (hn : qs.length = n) (hcap : n ≤ c) (hq : Q g) (hr : ∀ q ∈ qs, RIn Q w q.1 q.2.2.1) : PIn Q w (.slice (some ⟨g, 0, none⟩) n c) (qs.map Prod.snd) := by
  subst hn
  refine ⟨_, c, by rw [List.length_map], by rw [List.length_map]; exact hcap, fun h0 => ⟨g, 0, rfl, hq, fun j p hj => ?_⟩⟩
  rw [List.getElem?_map] at hj
  obtain ⟨q, hq2, rfl⟩ := Option.map_eq_some_iff.1 hj
  obtain ⟨c0, c1, c2, c3⟩ := rowC_at qs j q hq2
  have e : ∀ k, w.cell? ⟨g, 0 + j * 4 + k, none⟩ = (rowC qs)[j * 4 + k]? := fun k => by
    rw [Nat.zero_add, cell_of_row w g (j * 4 + k) cs 49 (0, 0) h, ← Array.getElem?_toList, hc]
  exact ⟨q.1, hr q (List.mem_of_getElem? hq2), (e 0).trans c0, (e 1).trans c1, (e 2).trans c2, (e 3).trans c3⟩
theorem heap_two (w : World) (a b : Obj) : ((w.alloc a).alloc b).heap[w.heap.size]? = some a := by
  rw [(below_new (w.alloc a) b).block w.heap.size (by simp)]
  exact heap_alloc_new w a
theorem heap_last (w : World) (a b : Obj) : ((w.alloc a).alloc b).heap[w.heap.size + 1]? = some b := by
  have := heap_alloc_new (w.alloc a) b
  simpa using this

/-- What came of a row that was driven to its end. -/
theorem drv_whole (s : St) (ps : List Ph) (most : Int) (h : whB ps most = true) : drvS s ps most = s.say (insR ps) ∧ drvL s ps most = rdR ps (s.hears (insR ps)) ∧ endN ps most = nR ps := by
  have he : endN ps most = nR ps := by unfold endN; rw [if_pos h]
  have ht : (insR ps).take (nR ps) = insR ps := List.take_of_length_le (by rw [insR_length]; exact Nat.le_refl _)
  refine ⟨?_, ?_, he⟩
  · unfold drvS ranS St.say; rw [if_pos h, ht]
  · unfold drvL ranY St.hears; rw [he, ht]
theorem run_take (s : St) (X : List Nat) (k : Nat) : (s.run (X.take k)).2 = (s.run X).2.take k := by
  rcases Nat.lt_or_ge X.length k with hl | hl
  · rw [List.take_of_length_le (Nat.le_of_lt hl), List.take_of_length_le (by rw [run_length]; omega)]
  · have h := run_append s (X.take k) (X.drop k)
    rw [List.take_append_drop] at h
    have hA : (s.run (X.take k)).2.length = k := by rw [run_length, List.length_take]; omega
    rw [h]
    show _ = ((s.run (X.take k)).2 ++ _).take k
    exact (List.take_left' hA).symm
def idP : List Ph := [(1, [159], 0, 0), (1, [], 0, 3)]
theorem idP_ins : insR idP = wordL [159] ++ List.replicate (8 * 3) 15 := by decide +kernel
theorem id_facts (a : ByteArray) : ∃ s s2, Hid (newSt a = s) ∧ Hid (drvS s idP 20 = s2) ∧ s.sel = false ∧ s2.sel = true ∧ Hid (drvS s idP (-1) = s) ∧ Hid (drvL s idP (-1) = [239, 64, 12]) ∧ Hid (drvL s idP 20 = [239]) := by
  have hr := rest_new a
  have hw := drv_whole (newSt a) idP (-1) (by decide)
  refine ⟨newSt a, drvS (newSt a) idP 20, rfl, rfl, rfl, ?_, ?_, ?_, ?_⟩
  · unfold drvS
    rw [if_neg (by decide)]
    unfold ranS
    rw [run_sel]
    exact select_sel _
  · rw [Hid, hw.1, idP_ins, say_id hr 3]
  · rw [Hid, hw.2.1, idP_ins, hears_id hr 3]
    decide +kernel
  · have he : endN idP 20 = 20 := by decide
    have hy : ranY (newSt a) idP 20 = (List.replicate 8 15 ++ outBs ((List.range 3).map fun i => (ub idT (i % 3)).toNat)).take 20 := by
      unfold ranY
      rw [run_take, ← hears_id hr 3, ← idP_ins]
      rfl
    unfold drvL
    rw [Hid, he, hy]
    decide +kernel
theorem emptyP_no : okR [((0 : Int), ([] : List Int), (0 : Int), (0 : Int))] = false := by decide
theorem idP_ok : okR idP = true ∧ PFit idP ∧ clkN idP = 32 ∧ clkX idP = 0 := by
  refine ⟨by decide, ⟨by decide, ?_⟩, by decide, by decide⟩
  intro p hp
  simp [idP] at hp
  rcases hp with rfl | rfl <;> decide

/-- A row of two phases, written out. -/
theorem lit_two {Q : Nat → Prop} (w : World) (cs : Array Value) (L : List Int) (n : Nat) (m : Int) (hc : cs.toList = L.map (Value.int .i64)) (hn : L.length = n) (hq : ∀ g, w.heap.size ≤ g → Q g) :
    PIn Q ((w.alloc (.cells cs 3)).alloc (.cells #[.int .i64 1, .slice (some ⟨w.heap.size, 0, none⟩) n n, .int .i64 0, .int .i64 0, .int .i64 1, .slice none 0 0, .int .i64 0, .int .i64 m] 49)) (.slice (some ⟨w.heap.size + 1, 0, none⟩) 2 2) [(1, L, 0, 0), (1, [], 0, m)] := by
  refine pin_lit [(.slice (some ⟨w.heap.size, 0, none⟩) n n, (1, L, 0, 0)), (.slice none 0 0, (1, [], 0, m))] (heap_last _ _ _) rfl rfl (Nat.le_refl _) (hq _ (Nat.le_succ _)) ?_
  intro q hq2
  simp at hq2
  rcases hq2 with rfl | rfl
  · exact rin_lit (heap_two _ _ _) hc hn (hq _ (Nat.le_refl _))
  · exact rin_nil _ _
theorem lit_one {Q : Nat → Prop} (w : World) (l c r : Int) (hq : Q w.heap.size) :
    PIn Q (w.alloc (.cells #[.int .i64 l, .slice none 0 0, .int .i64 c, .int .i64 r] 49)) (.slice (some ⟨w.heap.size, 0, none⟩) 1 1) [(l, [], c, r)] := by
  refine pin_lit [(.slice none 0 0, (l, [], c, r))] (heap_alloc_new _ _) rfl rfl (Nat.le_refl _) hq ?_
  intro q hq2
  simp at hq2
  subst hq2
  exact rin_nil _ _
/-- What a call kept of a row. -/
theorem pin_only {b : Nat} {w w' : World} {v : Value} {ps : List Ph} (h : Hid (PIn (fun g => g ≠ b) w v ps)) (k : Only b w w') : Hid (PIn (fun g => g ≠ b) w' v ps) := h.out.stays fun g hg hl => k.block g hl hg
theorem pin_below {b : Nat} {w w' : World} {v : Value} {ps : List Ph} (h : Hid (PIn (fun g => g ≠ b) w v ps)) (k : Below w.heap.size w w') : Hid (PIn (fun g => g ≠ b) w' v ps) := h.out.below k
theorem old_only {B b : Nat} {u w w' : World} (h : Hid (Below B u w)) (k : Only b w w') (hb : B ≤ b) (hu : B ≤ w.heap.size) : Hid (Below B u w') := h.out.trans (k.old hb hu)
theorem id_numbers : endN idP (-1) = 32 ∧ endN idP 20 = 20 ∧ whB idP (-1) = true ∧ whB idP 20 = false := by decide


def numI (L : List Nat) : List Int := L.map fun x : Nat => (x : Int)
theorem numI_length (L : List Nat) : (numI L).length = L.length := by simp [numI]
theorem numI_get (L : List Nat) (i : Nat) : (numI L).getD i 0 = ((L.getD i 0 : Nat) : Int) := by
  unfold numI
  rw [List.getD_eq_getElem?_getD, List.getElem?_map, List.getD_eq_getElem?_getD]
  cases L[i]? <;> rfl
theorem laneB_one : ∀ b : Fin 256, ∀ i : Fin 8, (14 + (outL (b.val : Int) 1).getD i.val 0).toNat = (bitsOf b.val).getD i.val 0 := by decide +kernel
theorem laneB_four : ∀ b : Fin 256, ∀ i : Fin 2, ((outL (b.val : Int) 4).getD i.val 0).toNat = (halves b.val).getD i.val 0 := by decide +kernel
theorem bitsOf_length (b : Nat) : (bitsOf b).length = 8 := rfl
theorem halvesOf_length (b : Nat) : (halves b).length = 2 := rfl
theorem flat_get (f : Nat → List Nat) (n : Nat) (hn : 0 < n) (hf : ∀ b, (f b).length = n) : ∀ (L : List Nat) (g : Nat), g < n * L.length → (L.flatMap f)[g]? = some ((f (L.getD (g / n) 0)).getD (g % n) 0)
  | [], g, h => by simp at h
  | b :: L, g, h => by
    rw [List.flatMap_cons]
    rcases Nat.lt_or_ge g n with hl | hl
    · rw [List.getElem?_append_left (by rw [hf]; exact hl), Nat.div_eq_of_lt hl, Nat.mod_eq_of_lt hl]
      show _ = some ((f b).getD g 0)
      rw [List.getD_eq_getElem?_getD, List.getElem?_eq_getElem (by rw [hf]; exact hl)]
      rfl
    · rw [List.getElem?_append_right (by rw [hf]; exact hl), hf]
      have h2 : g - n < n * L.length := by rw [List.length_cons, Nat.mul_succ] at h; omega
      rw [flat_get f n hn hf L (g - n) h2, Nat.div_eq_sub_div hn hl, Nat.mod_eq_sub_mod hl]
      rfl
theorem insP_bytes {l : Int} (f : Nat → List Nat) (hf : ∀ b, (f b).length = bcI l) (hl : 0 < bcI l) (L : List Nat) (h0 : 0 < L.length) (hg : ∀ b i, b < 256 → i < bcI l → inN (l, numI L, 0, 0) i = inN (l, numI L, 0, 0) i) (hv : ∀ g, g < bcI l * L.length → inN (l, numI L, 0, 0) g = (f (L.getD (g / bcI l) 0)).getD (g % bcI l) 0) : insP (l, numI L, 0, 0) = L.flatMap f := by
  have hn : nP (l, numI L, 0, 0) = bcI l * L.length := by
    unfold nP
    show (0 : Int).toNat + ((numI L).length + (0 : Int).toNat) * bcI l = _
    rw [numI_length, Nat.mul_comm]; simp
  refine List.ext_getElem? fun g => ?_
  rcases Nat.lt_or_ge g (bcI l * L.length) with h | h
  · rw [flat_get f _ hl hf L g h]
    unfold insP
    rw [hn, List.getElem?_map, List.getElem?_range h]
    show some (inN _ g) = _
    rw [hv g h]
  · rw [List.getElem?_eq_none (by rw [insP_length, hn]; exact h), List.getElem?_eq_none]
    rw [List.length_flatMap]
    have : ∀ L : List Nat, (L.map fun a => (f a).length).sum = bcI l * L.length := fun L => by
      induction L with
      | nil => rfl
      | cons b L ih => rw [List.map_cons, List.sum_cons, ih, hf, List.length_cons, Nat.mul_succ]; omega
    rw [this]; exact h
theorem getD_lt {L : List Nat} (h : ∀ x ∈ L, x < 256) (i : Nat) : L.getD i 0 < 256 := by
  rw [List.getD_eq_getElem?_getD]
  rcases Nat.lt_or_ge i L.length with hl | hl
  · rw [List.getElem?_eq_getElem hl]; exact h _ (List.getElem_mem hl)
  · rw [List.getElem?_eq_none hl]; decide
theorem ins_one (L : List Nat) (h : ∀ x ∈ L, x < 256) (h0 : 0 < L.length) : insP (1, numI L, 0, 0) = wordL L := by
  refine insP_bytes (l := 1) bitsOf bitsOf_length (by decide) L h0 (fun _ _ _ _ => rfl) fun g hg => ?_
  unfold inN inW
  rw [if_neg (by rw [numI_length]; omega), if_pos rfl, numI_get]
  exact laneB_one ⟨_, getD_lt h _⟩ ⟨g % 8, Nat.mod_lt _ (by decide)⟩
theorem ins_four (L : List Nat) (h : ∀ x ∈ L, x < 256) (h0 : 0 < L.length) : insP (4, numI L, 0, 0) = L.flatMap halves := by
  refine insP_bytes (l := 4) halves halvesOf_length (by decide) L h0 (fun _ _ _ _ => rfl) fun g hg => ?_
  unfold inN inW
  rw [if_neg (by rw [numI_length]; omega), if_neg (by show ¬ ((4 : Int) = 1); decide), numI_get]
  exact laneB_four ⟨_, getD_lt h _⟩ ⟨g % 2, Nat.mod_lt _ (by decide)⟩
theorem ins_idle (l c r : Int) : insP (l, [], c, r) = List.replicate (nP (l, [], c, r)) 15 := by
  unfold insP
  have : ∀ n, (List.range n).map (inN (l, [], c, r)) = List.replicate n 15 := fun n => by
    have e : inN (l, [], c, r) = fun _ => 15 := by funext g; unfold inN; rw [inW_idle _ _ rfl]; rfl
    rw [e, List.map_const', List.length_range]
  exact this _

def readP (k m : Nat) : List Ph := [(1, numI [3, 0, k / 256, k % 256], 0, 0), (1, [], 0, (m : Int))]
theorem readP_ins (k m : Nat) (hk : k < 4096) : insR (readP k m) = wordL [3, 0, k / 256, k % 256] ++ List.replicate (8 * m) 15 := by
  unfold readP
  rw [insR_cons, insR_cons, ins_one _ (by intro x hx; simp at hx; omega) (by simp), ins_idle]
  have : nP (1, [], 0, (m : Int)) = 8 * m := by unfold nP; show (0 : Int).toNat + (0 + (m : Int).toNat) * 8 = _; simp; omega
  rw [this]
  simp [insR]
theorem readP_n (k m : Nat) : nR (readP k m) = 32 + 8 * m := by
  unfold readP nR nP
  show ((0 : Int).toNat + (4 + (0 : Int).toNat) * 8) + (((0 : Int).toNat + (0 + (m : Int).toNat) * 8) + 0) = _
  simp; omega
theorem cellsL_lt (A : ByteArray) (k m : Nat) : ∀ x ∈ (List.range m).map fun i => (ub A ((k + i) % A.size)).toNat, x < 256 := fun x hx => by
  obtain ⟨i, _, rfl⟩ := List.mem_map.1 hx
  exact (ub A _).toNat_lt
theorem rdOf_one (m : Nat) (hm : 0 < m) (L : List Nat) (hL : ∀ x ∈ L, x < 256) (hl : L.length = m) : rdOf (1, [], 0, (m : Int)) ((outBs L).take (nP (1, [], 0, (m : Int)))) = numI L := by
  have : nP (1, [], 0, (m : Int)) = 8 * m := by unfold nP; show (0 : Int).toNat + (0 + (m : Int).toNat) * 8 = _; simp; omega
  rw [this, List.take_of_length_le (by rw [outBs_length, hl]; exact Nat.le_refl _)]
  unfold rdOf
  rw [if_pos (by show (0 : Int) < (m : Int); omega)]
  show (hrd 1 (outBs L)).2 = _
  rw [hrd_bytes1 L hL]
  rfl
theorem okP_come (l : Int) (hl : l = 1 ∨ l = 4) (m : Nat) (h0 : 0 < m) (h1 : m ≤ 512) : okP (l, [], 0, (m : Int)) = true := by
  unfold okP
  rw [if_neg (by simp), if_pos rfl]
  have := bc_pos hl
  simp only [Bool.and_eq_true, decide_eq_true_eq]
  exact ⟨this, by omega, by omega⟩
theorem okP_say (l : Int) (hl : l = 1 ∨ l = 4) (L : List Nat) (h : ∀ x ∈ L, x < 256) (h0 : 0 < L.length) (h1 : L.length ≤ 512) : okP (l, numI L, 0, 0) = true := by
  unfold okP
  rw [if_pos (by rw [numI_length]; exact h0)]
  have := bc_pos hl
  simp only [Bool.and_eq_true, decide_eq_true_eq, fewB, numI_length]
  refine ⟨trivial, trivial, this, h1, ?_⟩
  refine List.all_eq_true.2 fun x hx => ?_
  obtain ⟨y, hy, rfl⟩ := List.mem_map.1 hx
  have := h y hy
  simp; omega
/-- A read on one lane. -/
theorem read_facts {s : St} (h : s.Rest) (A : ByteArray) (hA : s.A = A) (k m : Nat) (hk : k < 4096) (hm : 0 < m) (hm2 : m ≤ 512) :
    drvS s (readP k m) (-1) = s ∧ drvL s (readP k m) (-1) = numI ((List.range m).map fun i => (ub A ((k + i) % A.size)).toNat) ∧ endN (readP k m) (-1) = 32 + 8 * m ∧ whB (readP k m) (-1) = true ∧ okR (readP k m) = true ∧ PFit (readP k m) := by
  have hw : whB (readP k m) (-1) = true := rfl
  obtain ⟨h1, h2, h3⟩ := drv_whole s (readP k m) (-1) hw
  refine ⟨?_, ?_, by rw [h3, readP_n], hw, ?_, ?_, ?_⟩
  · rw [h1, readP_ins k m hk, say_read h k hk m]
  · rw [h2, readP_ins k m hk, hears_read h k hk m, hA]
    have e := rdR_last [(1, numI [3, 0, k / 256, k % 256], 0, 0)] (1, [], 0, (m : Int)) (List.replicate 32 15 ++ outBs ((List.range m).map fun i => (ub A ((k + i) % A.size)).toNat)) (by intro p hp; simp at hp; subst hp; exact Int.le_refl _)
    refine e.trans ?_
    have hn : nR [((1 : Int), numI [3, 0, k / 256, k % 256], (0 : Int), (0 : Int))] = 32 := rfl
    rw [hn, List.drop_left' (by simp)]
    exact rdOf_one m hm _ (cellsL_lt A k m) (by simp)
  · unfold readP
    rw [okR_cons, okR_cons, okP_say 1 (.inl rfl) _ (by intro x hx; simp at hx; omega) (by simp) (by simp), okP_come 1 (.inl rfl) m hm hm2]
    rfl
  · show 2 * 48 ≤ 140737488351232; decide
  · intro p hp
    simp [readP] at hp
    rcases hp with rfl | rfl
    · show (numI [3, 0, k / 256, k % 256]).length * 8 ≤ _
      rw [numI_length]; show 4 * 8 ≤ 140737488351232; decide
    · show 0 * 8 ≤ 140737488351232; decide
/-- A read without a command. -/
theorem none_facts {s : St} (h : s.Rest) (m : Nat) (hm : 0 < m) (hm2 : m ≤ 512) :
    drvL s [(1, [], 0, (m : Int))] (-1) = numI (List.replicate m 255) ∧ endN [(1, [], 0, (m : Int))] (-1) = 8 * m ∧ whB [(1, [], 0, (m : Int))] (-1) = true ∧ okR [(1, [], 0, (m : Int))] = true ∧ PFit [(1, [], 0, (m : Int))] := by
  have hw : whB [((1 : Int), ([] : List Int), (0 : Int), (m : Int))] (-1) = true := rfl
  obtain ⟨h1, h2, h3⟩ := drv_whole s [(1, [], 0, (m : Int))] (-1) hw
  have hnp : nP (1, [], 0, (m : Int)) = 8 * m := by unfold nP; show (0 : Int).toNat + (0 + (m : Int).toNat) * 8 = _; simp; omega
  have hn : nR [((1 : Int), ([] : List Int), (0 : Int), (m : Int))] = 8 * m := by rw [nR_cons, hnp]; simp [nR]
  have hi : insR [((1 : Int), ([] : List Int), (0 : Int), (m : Int))] = List.replicate (8 * m) 15 := by rw [insR_cons, ins_idle, hnp]; simp [insR]
  have e1 : List.replicate (8 * m) 15 = bitsOf 255 ++ List.replicate (8 * m - 8) 15 := by
    rw [show bitsOf 255 = List.replicate 8 15 from rfl, List.replicate_append_replicate]; congr 1; omega
  have e2 : ∀ m : Nat, outBs (List.replicate m 255) = List.replicate (8 * m) 15 := fun m => by
    induction m with
    | zero => rfl
    | succ m ih =>
      have : outBs (List.replicate (m + 1) 255) = outB 255 ++ outBs (List.replicate m 255) := by simp [outBs, List.replicate_succ]
      rw [this, ih, show outB 255 = List.replicate 8 15 from by decide, List.replicate_append_replicate]; congr 1; omega
  refine ⟨?_, by rw [h3, hn], hw, ?_, by show 1 * 48 ≤ 140737488351232; decide, ?_⟩
  · rw [h2, hi, e1, hears_none h 255 (by decide) (by rw [rest_opFor h 255 (by decide)]; rfl), List.length_replicate, show 8 + (8 * m - 8) = 8 * m by omega, ← e2 m]
    show rdOf _ _ ++ [] = _
    rw [List.append_nil]
    exact rdOf_one m hm _ (by intro x hx; rw [(List.mem_replicate.1 hx).2]; decide) (by simp)
  · rw [okR_cons, okP_come 1 (.inl rfl) m hm hm2]; rfl
  · intro p hp
    simp at hp
    subst hp
    show 0 * 8 ≤ 140737488351232; decide
theorem one_more (K m : Nat) (hm : m = 1 + K) (hK : K < 1000) : wrap64 (1 + (K : Int)) = (m : Int) := by
  rw [IntWalk.wrap64_in _ (by omega), hm]; push_cast; rfl
theorem one_more' (K m : Nat) (hm : m = 1 + K) : 1 + (K : Int) = (m : Int) := by omega
theorem rows_letters (k m K t : Nat) (hm : m = 1 + K) (hm2 : m ≤ 1000) (hk : k < 4096) (ht : t = (k + K) % 4096) : ∃ M8 U S S1 : Nat, 8 * (m : Int) = (M8 : Int) ∧ IntKind.i64.wrap (M8 : Int) = (M8 : Int) ∧ 32 + (M8 : Int) = (U : Int) ∧ IntKind.i64.wrap (U : Int) = (U : Int) ∧ Hid (32 + 8 * m = U) ∧ (m : Int) - 1 = (K : Int) ∧ IntKind.i64.wrap (K : Int) = (K : Int) ∧ (k : Int) + (m : Int) = (S : Int) ∧ IntKind.i64.wrap (S : Int) = (S : Int) ∧ (S : Int) - 1 = (S1 : Int) ∧ IntKind.i64.wrap (S1 : Int) = (S1 : Int) ∧ (S1 : Int) % 4096 = (t : Int) := by
  refine ⟨8 * m, 32 + 8 * m, k + m, k + K, by omega, IntWalk.i64_in _ (by omega), by omega, IntWalk.i64_in _ (by omega), rfl, by omega, IntWalk.i64_in _ (by omega), by omega, IntWalk.i64_in _ (by omega), by omega, IntWalk.i64_in _ (by omega), by omega⟩
theorem str_at (A : ByteArray) (k : Nat) (hk : k < A.size) : ∀ w : World, (Instr.index 9 (.string A) (.int .i64 (k : Int))).run Tryz.prog w = .ok (.int .u8 ((ub A k).toNat : Int)) w := fun w => by
  have h1 := get_ub A
  have i1 : (0 : Int) ≤ (k : Int) := by omega
  simp [Instr.index, run_underlying Tryz.underlying9, asIntOf, go_sem, hk, h1]
theorem byte_at (A : ByteArray) (k : Nat) (hk : k < A.size) : ∃ x : Nat, Hid ((ub A k).toNat = x) ∧ x < 256 ∧ (wrap64 (x : Int) = (x : Int) ∧ IntKind.i64.wrap (x : Int) = (x : Int)) ∧ ∀ w : World, (Instr.index 9 (.string A) (.int .i64 (k : Int))).run Tryz.prog w = .ok (.int .u8 (x : Int)) w :=
  ⟨_, rfl, (ub A k).toNat_lt, ⟨wrap_ub A k, IntWalk.i64_in _ (by have := (ub A k).toNat_lt; omega)⟩, str_at A k hk⟩
theorem used_wraps (m : Nat) (h : m ≤ 1000) : wrap64 (8 * (m : Int)) = 8 * (m : Int) ∧ wrap64 (32 + 8 * (m : Int)) = 32 + 8 * (m : Int) ∧ IntKind.i64.wrap (8 * (m : Int)) = 8 * (m : Int) ∧ IntKind.i64.wrap (32 + 8 * (m : Int)) = 32 + 8 * (m : Int) :=
  ⟨IntWalk.wrap64_in _ (by omega), IntWalk.wrap64_in _ (by omega), IntWalk.i64_in _ (by omega), IntWalk.i64_in _ (by omega)⟩
theorem m_wraps (k m K t : Nat) (h1 : k < 4096) (h2 : m ≤ 1000) (h3 : (m : Int) - 1 = (K : Int)) : wrap64 (K : Int) = (K : Int) ∧ wrap64 ((k : Int) + (m : Int)) = (k : Int) + (m : Int) ∧ wrap64 ((k : Int) + (m : Int) - 1) = (k : Int) + (m : Int) - 1 ∧ IntKind.i64.wrap (K : Int) = (K : Int) ∧ IntKind.i64.wrap ((k : Int) + (m : Int)) = (k : Int) + (m : Int) ∧ IntKind.i64.wrap ((k : Int) + (m : Int) - 1) = (k : Int) + (m : Int) - 1 :=
  ⟨IntWalk.wrap64_in _ (by omega), IntWalk.wrap64_in _ (by omega), IntWalk.wrap64_in _ (by omega), IntWalk.i64_in _ (by omega), IntWalk.i64_in _ (by omega), IntWalk.i64_in _ (by omega)⟩
theorem one_less (K m : Nat) (hm : m = 1 + K) : (m : Int) - 1 = (K : Int) ∧ (K : Int) < (m : Int) := by omega
theorem last_at (k K m t : Nat) (hm : m = 1 + K) (ht : t = (k + K) % 4096) : ((k : Int) + (m : Int) - 1) % 4096 = (t : Int) ∧ ((k : Int) + (K : Int)) % 4096 = (t : Int) := by omega
theorem last_lt (k K t : Nat) (ht : t = (k + K) % 4096) : t < 4096 := by omega
theorem halves_of (k K1 K2 : Nat) (h1 : K1 = k / 256) (h2 : K2 = k % 256) : (k : Int) / 256 = (K1 : Int) ∧ bits .and .i64 (k : Int) 255 = (K2 : Int) := by
  rw [and_255]; omega
end Go.Proofs.YtjhjghakfedeeaaGreat
