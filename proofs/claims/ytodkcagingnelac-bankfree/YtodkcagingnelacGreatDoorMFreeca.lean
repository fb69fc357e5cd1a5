import Derived.Test.YtodkcagingnelacGreatDoorMFreebz
namespace Go.Proofs.YtodkcagingnelacGreatDoor.Bn
open Go.RowKit Go.Proofs.YtodkcagingnelacGreatDoor.Gn Go.Maps
def psA : List Pa := [⟨10, 5, 1000⟩]
def ddA : List Dd := [⟨0, 1, 0, 0, 0, 100⟩, ⟨0, 2, 0, 0, 0, 60⟩, ⟨0, 3, 0, 0, 2, 40⟩, ⟨0, 5, 0, 0, 0, 0⟩, ⟨0, 6, 1, 0, 0, 0⟩]
theorem setup_any (w : World) : Calls Tryz.prog 48 #[] w fun e w' => ∃ a c, e = .returned (suv (.slice a 1 c) 1 30) ∧ Gn.Lies kPa w' a c psA ∧ Below w.heap.size w w' := by
  go_enter Tryz.func48, Tryz.ntmps48
  go_wp2_with fail
  have e1 := below_alloc w (.cells #[.slice (some ⟨w.heap.size + 1, 0, none⟩) 1 1, .int .i64 1, .int .i64 30] 24)
  have e2 := below_alloc (w.alloc (.cells #[.slice (some ⟨w.heap.size + 1, 0, none⟩) 1 1, .int .i64 1, .int .i64 30] 24)) (.cells #[.int .i64 10, .int .i64 5, .int .i64 1000] 58)
  have hp : Gn.Lies kPa ((w.alloc (.cells #[.slice (some ⟨w.heap.size + 1, 0, none⟩) 1 1, .int .i64 1, .int .i64 30] 24)).alloc (.cells #[.int .i64 10, .int .i64 5, .int .i64 1000] 58)) (some ⟨w.heap.size + 1, 0, none⟩) 1 psA := lies_one (K := kPa) (x := ⟨10, 5, 1000⟩) (cs := #[.int .i64 10, .int .i64 5, .int .i64 1000]) (heap_alloc_at _ _ _ (by simp)) rfl _
  have hs : ((w.alloc (.cells #[.slice (some ⟨w.heap.size + 1, 0, none⟩) 1 1, .int .i64 1, .int .i64 30] 24)).alloc (.cells #[.int .i64 10, .int .i64 5, .int .i64 1000] 58)).heap[w.heap.size]? = some (suo (.slice (some ⟨w.heap.size + 1, 0, none⟩) 1 1) 1 30) := (e2.block _ (by simp)).trans (heap_alloc_at _ _ _ rfl)
  have hb := e1.trans (e2.mono (by simp))
  obtain ⟨s0, s1, s2⟩ := sul_cells hs
  generalize (w.alloc (.cells #[.slice (some ⟨w.heap.size + 1, 0, none⟩) 1 1, .int .i64 1, .int .i64 30] 24)).alloc (.cells #[.int .i64 10, .int .i64 5, .int .i64 1000] 58) = X at *
  exact bodyPost_ret (v := suv (.slice (some ⟨w.heap.size + 1, 0, none⟩) 1 1) 1 30) (by unfold suv; simp [results, Tryz.results48, go_sem, s0, s1, s2]; try rfl) rfl ⟨_, _, rfl, hp, hb⟩
theorem lies_blk {α : Type} {K : Kind α} {w : World} {b : Nat} {L : List α} {t : TypeId} {cs : Array Value} (h : w.heap[b]? = some (.cells cs t)) (hc : cs.toList = K.flat L) (hl : L.length ≤ maxLen) (c : Nat) : Gn.Lies K w (some ⟨b, 0, none⟩) c L := by
  refine ⟨hl, (fun h => by cases h), Or.inr ⟨b, 0, rfl, lt_of_block h, fun j u hj => ?_⟩⟩
  rw [← hc] at hj
  rw [Nat.zero_add, cell_of_row w b j cs t _ h]
  simpa using hj
/-- What Play answers is laid into two boxes. -/
theorem got_box (w : World) (zs : Array Value) (hz : zs.size = 19) (b : Bank) (v : Vs) (f : Int × Int) :
    ((w.alloc (.cells zs 43)).alloc (.cells #[.int .i64 0, .int .i64 0] 47)).there w.heap.size 0 (cellsK b v).size ∧
    (((w.alloc (.cells zs 43)).alloc (.cells #[.int .i64 0, .int .i64 0] 47)).setCells w.heap.size 0 (cellsK b v).toList).heap[w.heap.size + 1]? = some (fo (0, 0)) ∧
    (((((w.alloc (.cells zs 43)).alloc (.cells #[.int .i64 0, .int .i64 0] 47)).setCells w.heap.size 0 (cellsK b v).toList).setCell ⟨w.heap.size + 1, 0, none⟩ (.int .i64 f.1)).setCell ⟨w.heap.size + 1, 1, none⟩ (.int .i64 f.2)).heap[w.heap.size]? = some (bko b v) ∧
    (((((w.alloc (.cells zs 43)).alloc (.cells #[.int .i64 0, .int .i64 0] 47)).setCells w.heap.size 0 (cellsK b v).toList).setCell ⟨w.heap.size + 1, 0, none⟩ (.int .i64 f.1)).setCell ⟨w.heap.size + 1, 1, none⟩ (.int .i64 f.2)).heap[w.heap.size + 1]? = some (fo f) ∧
    Below w.heap.size w (((((w.alloc (.cells zs 43)).alloc (.cells #[.int .i64 0, .int .i64 0] 47)).setCells w.heap.size 0 (cellsK b v).toList).setCell ⟨w.heap.size + 1, 0, none⟩ (.int .i64 f.1)).setCell ⟨w.heap.size + 1, 1, none⟩ (.int .i64 f.2)) := by
  have e1 := below_alloc w (.cells zs 43)
  have e2 := below_alloc (w.alloc (.cells zs 43)) (.cells #[.int .i64 0, .int .i64 0] 47)
  have h0 : ((w.alloc (.cells zs 43)).alloc (.cells #[.int .i64 0, .int .i64 0] 47)).heap[w.heap.size]? = some (.cells zs 43) := (e2.block _ (by simp)).trans (heap_alloc_at _ _ _ rfl)
  have h1 : ((w.alloc (.cells zs 43)).alloc (.cells #[.int .i64 0, .int .i64 0] 47)).heap[w.heap.size + 1]? = some (fo (0, 0)) := heap_alloc_at _ _ _ (by simp)
  have hb := e1.trans (e2.mono (by simp))
  refine ⟨there_blk h0 (by rw [hz]; exact Nat.le_refl 19), ?_⟩
  rw [putAll_cells]
  have g0 : (putAll ((w.alloc (.cells zs 43)).alloc (.cells #[.int .i64 0, .int .i64 0] 47)) w.heap.size 0 (cellsK b v).toList).heap[w.heap.size]? = some (bko b v) := by
    have := putAll_same (cellsK b v).toList ((w.alloc (.cells zs 43)).alloc (.cells #[.int .i64 0, .int .i64 0] 47)) w.heap.size [] zs.toList [] 43 (by simp [hz]; rfl) (by rw [h0]; simp)
    refine Eq.trans this ?_
    unfold bko
    simp
  have g1 := (putAll_other ((w.alloc (.cells zs 43)).alloc (.cells #[.int .i64 0, .int .i64 0] 47)) w.heap.size 0 (w.heap.size + 1) (cellsK b v).toList (by omega)).trans h1
  have hbY := below_putAll hb w.heap.size 0 (cellsK b v).toList (Nat.le_refl _)
  generalize putAll ((w.alloc (.cells zs 43)).alloc (.cells #[.int .i64 0, .int .i64 0] 47)) w.heap.size 0 (cellsK b v).toList = Y at *
  exact ⟨g1, (heap_setCell_other _ _ _ _ (by simp)).trans ((heap_setCell_other _ _ _ _ (by simp)).trans g0), fo_put g1, (hbY.setCell (p := ⟨w.heap.size + 1, 0, none⟩) (by simp) _).setCell (p := ⟨w.heap.size + 1, 1, none⟩) (by simp) _⟩
theorem alive_plain : (playR psA 1 30 ddA).2.2 = (0, 0) ∧ (playR psA 1 30 ddA).2.1 = [(0, 0), (0, 0), (0, 0), (0, 0), (0, 0)] ∧ (playR psA 1 30 ddA).1.due = [40] ∧ (playR psA 1 30 ddA).1.cards.map (fun c => (c.m, c.h)) = [(60, 20)] := ⟨by kernel_rfl, by kernel_rfl, by kernel_rfl, by kernel_rfl⟩
theorem alive_facts {w w' : World} {v : Vs} {cs : List CV} {ds : List DV} {va : Value} (SH : Shows w (playR psA 1 30 ddA).1 v cs ds) (AP : Ap kAn (fun _ => 0) w va (playR psA 1 30 ddA).2.1 0) (hb : Below w.heap.size w w') :
    ∃ z1 o1 c1 z2 o2 c2 z3 o3 c3, va = .slice (some ⟨z1, o1, none⟩) 5 c1 ∧ w'.cell? ⟨z1, o1 + 8, none⟩ = some (.int .i64 0) ∧ v.d = .slice (some ⟨z2, o2, none⟩) 1 c2 ∧ w'.cell? ⟨z2, o2, none⟩ = some (.int .i64 40) ∧ v.c = .slice (some ⟨z3, o3, none⟩) 1 c3 ∧ w'.cell? ⟨z3, o3, none⟩ = some (.int .i64 60) ∧ w'.cell? ⟨z3, o3 + 1, none⟩ = some (.int .i64 20) := by
  obtain ⟨-, p2, p3, p4⟩ := alive_plain
  rw [p2] at AP
  have SH' := SH.below hb
  have hd := SH'.due
  have hc := SH'.cards
  have hcs := SH'.csv
  rw [p3] at hd
  have hcm : cs.map (fun x => (x.c.m, x.c.h)) = [(60, 20)] := by rw [← p4, ← hcs, List.map_map]; rfl
  obtain ⟨x, rfl⟩ : ∃ x, cs = [x] := by
    cases cs with
    | nil => simp at hcm
    | cons x r => cases r with
      | nil => exact ⟨x, rfl⟩
      | cons y r => simp at hcm
  simp at hcm
  obtain ⟨a1, c1, h1, l1⟩ := AP.lies
  obtain ⟨a2, c2, h2, l2⟩ := hd.lies
  obtain ⟨a3, c3, h3, l3⟩ := hc.lies
  obtain ⟨z1, o1, rfl, -, f1⟩ := (l1.below hb).elem (i := 4) (x := (0, 0)) rfl
  obtain ⟨z2, o2, rfl, -, f2⟩ := l2.elem (i := 0) (x := 40) rfl
  obtain ⟨z3, o3, rfl, -, f3⟩ := l3.elem (i := 0) (x := x) rfl
  refine ⟨z1, o1, c1, z2, o2, c2, z3, o3, c3, h1, f1 0 _ rfl, h2, by simpa using f2 0 _ rfl, h3, ?_, ?_⟩
  · have := f3 0 _ rfl
    simpa [hcm.1] using this
  · have := f3 1 _ rfl
    simpa [hcm.2] using this
set_option maxRecDepth 10000 in
theorem alive_any (w : World) (O : Oth w) : Calls Tryz.prog 19 #[] w fun e w' => e = .returned (.bool true) ∧ Below w.heap.size w w' := by
  have hS := setup_any w
  have hP := fun (W : World) (a : Option Addr) (c : Nat) (al : Option Addr) (h : Gn.Lies kPa W a c psA) (hd : Gn.Lies kDd W al 5 ddA) (hO : Oth W) => play_any psA a c 1 30 al 5 ddA W h hd (by intro d hd; simp [ddA] at hd; rcases hd with rfl | rfl | rfl | rfl | rfl <;> exact ⟨by decide, by decide⟩) hO
  have hF := fun (W W' : World) (v : Vs) (cs : List CV) (ds : List DV) (va : Value) (SH : Shows W (playR psA 1 30 ddA).1 v cs ds) (AP : Ap kAn (fun _ => 0) W va (playR psA 1 30 ddA).2.1 0) (hb : Below W.heap.size W W') => alive_facts SH AP hb
  have hf := alive_plain.1
  generalize playR psA 1 30 ddA = r at *
  have hl1 : psA.length = 1 := rfl
  have hl2 : ddA.length = 5 := rfl
  rw [hl1, hl2] at hP
  unfold suv at hS hP
  unfold Plays at hP
  rw [hf] at hP
  clear hf hl1 hl2
  obtain ⟨b, A, f⟩ := r
  dsimp only at hP hF
  simp only [bkv_cells] at hP
  unfold Dy.fv at hP
  go_enter Tryz.func19, Tryz.ntmps19
  go_upto_region 1 with fail
  go_upto_region 2 with fail
  refine hS.mono ?_
  rintro _ w1 ⟨a, c, rfl, hl, hb1⟩
  have e1 := below_alloc w1 (.cells #[.int .i64 0, .int .i64 1, .int .i64 0, .int .i64 0, .int .i64 0, .int .i64 100, .int .i64 0, .int .i64 2, .int .i64 0, .int .i64 0, .int .i64 0, .int .i64 60, .int .i64 0, .int .i64 3, .int .i64 0, .int .i64 0, .int .i64 2, .int .i64 40, .int .i64 0, .int .i64 5, .int .i64 0, .int .i64 0, .int .i64 0, .int .i64 0, .int .i64 0, .int .i64 6, .int .i64 1, .int .i64 0, .int .i64 0, .int .i64 0] 74)
  have hd1 : Gn.Lies kDd (w1.alloc (.cells #[.int .i64 0, .int .i64 1, .int .i64 0, .int .i64 0, .int .i64 0, .int .i64 100, .int .i64 0, .int .i64 2, .int .i64 0, .int .i64 0, .int .i64 0, .int .i64 60, .int .i64 0, .int .i64 3, .int .i64 0, .int .i64 0, .int .i64 2, .int .i64 40, .int .i64 0, .int .i64 5, .int .i64 0, .int .i64 0, .int .i64 0, .int .i64 0, .int .i64 0, .int .i64 6, .int .i64 1, .int .i64 0, .int .i64 0, .int .i64 0] 74)) (some ⟨w1.heap.size, 0, none⟩) 5 ddA := lies_blk (K := kDd) (L := ddA) (heap_alloc_at _ _ _ rfl) (by kernel_rfl) (by simp [ddA, maxLen]) _
  have hP1 := hP _ _ _ _ (hl.below e1) hd1 (O.keep ((e1.block 0 (Nat.lt_of_lt_of_le O.lt hb1.size)).trans (hb1.block 0 O.lt)))
  have hb2 : Below w.heap.size w (w1.alloc (.cells #[.int .i64 0, .int .i64 1, .int .i64 0, .int .i64 0, .int .i64 0, .int .i64 100, .int .i64 0, .int .i64 2, .int .i64 0, .int .i64 0, .int .i64 0, .int .i64 60, .int .i64 0, .int .i64 3, .int .i64 0, .int .i64 0, .int .i64 2, .int .i64 40, .int .i64 0, .int .i64 5, .int .i64 0, .int .i64 0, .int .i64 0, .int .i64 0, .int .i64 0, .int .i64 6, .int .i64 1, .int .i64 0, .int .i64 0, .int .i64 0] 74)) := hb1.trans (e1.mono hb1.size)
  clear hP hS hl hd1 e1
  go_upto_region 2 with (first
    | (go_at_call 14; refine hP1.mono ?_; rintro _ w2 ⟨v, cs, ds, va, rfl, SH, AP, hb3⟩; obtain ⟨G1, G2, G3, G4, G5⟩ := got_box w2 #[.int .i64 0, .bool false, .slice none 0 0, .slice none 0 0, .slice none 0 0, .int .i64 0, .slice none 0 0, .int .i64 0, .slice none 0 0, .int .i64 0, .int .i64 0, .slice none 0 0, .slice none 0 0, .int .i64 0, .slice none 0 0, .slice none 0 0, .slice none 0 0, .slice none 0 0, .slice none 0 0] rfl b v (0, 0); have hF1 := hF _ _ _ _ _ _ SH AP G5; replace G3 := bko_cells G3; obtain ⟨t0, t1, t2, t3⟩ := fo_cells G2; obtain ⟨y0, y1, y2, y3⟩ := fo_cells G4; have hone := hid SH.one; have hinf : Hid ((Tryz.prog.info? 43).map (·.size) = some (cellsK b v).size) := hid infoK; have hb4 : Below w.heap.size w _ := (hb2.trans (hb3.mono hb2.size)).trans (G5.mono ((hb2.trans (hb3.mono hb2.size)).size)); dsimp only at t0 t1 y0 y1 G3 hb4 hF1; clear G4 G5 SH AP G2 hP1 hF; generalize cellsK b v = cc at *)
    | (refine wpList_store_mid rfl 43 _ _ rfl w2.heap.size 0 cc rfl rfl G1 hinf.out hone.out ?_))
  generalize ((((w2.alloc (.cells #[.int .i64 0, .bool false, .slice none 0 0, .slice none 0 0, .slice none 0 0, .int .i64 0, .slice none 0 0, .int .i64 0, .slice none 0 0, .int .i64 0, .int .i64 0, .slice none 0 0, .slice none 0 0, .int .i64 0, .slice none 0 0, .slice none 0 0, .slice none 0 0, .slice none 0 0, .slice none 0 0] 43)).alloc (.cells #[.int .i64 0, .int .i64 0] 47)).setCells w2.heap.size 0 cc.toList).setCell ⟨w2.heap.size + 1, 0, none⟩ (.int .i64 0)).setCell ⟨w2.heap.size + 1, 1, none⟩ (.int .i64 0) = Z at *
  obtain ⟨-, -, c2, c3, -⟩ := G3
  obtain ⟨z1, o1, c1', z2, o2, c2', z3, o3, c3', rfl, f1, hvd, f2, hvc, f3, f4⟩ := hF1
  rw [hvd] at c3
  rw [hvc] at c2
  clear hvd hvc G1 t0 t1 t2 t3 hb3 hb2
  go_wp2_with fail
  exact bodyPost_ret (results_tmp Tryz.results19 _ _ _) rfl ⟨rfl, hb4⟩
end Go.Proofs.YtodkcagingnelacGreatDoor.Bn
namespace Go.Proofs.YtodkcagingnelacGreatDoor.Bn
open Go.RowKit Go.Proofs.YtodkcagingnelacGreatDoor.Gn Go.Maps
theorem playR_ok {ps : List Pa} {shops cap : Int} {l : List Dd} (h : (playR ps shops cap l).2.2.1 = 0) : (setErr ps shops cap).1 = 0 ∧ l.length ≤ 150 ∧ playR ps shops cap l = ((playL (startB ps shops.toNat cap) l).1, (playL (startB ps shops.toNat cap) l).2.map (·.2), (0, 0)) := by
  unfold playR at h ⊢
  by_cases h1 : (setErr ps shops cap).1 ≠ 0
  · rw [if_pos h1] at h; exact absurd h h1
  rw [if_neg h1] at h ⊢
  by_cases h2 : 150 < l.length
  · rw [if_pos h2] at h; cases h
  rw [if_neg h2]
  exact ⟨by simpa using h1, by omega, rfl⟩
theorem playR_inv {ps : List Pa} {shops cap : Int} {l : List Dd} (h : (playR ps shops cap l).2.2.1 = 0) : Inv (startB ps shops.toNat cap) ∧ Inv (playR ps shops cap l).1 := by
  obtain ⟨h1, -, h3⟩ := playR_ok h
  obtain ⟨o1, o2, o3, o4, o5, o6⟩ := set_ok h1
  have I := start_inv (paces := ps) (shops := shops.toNat) (cap := cap) o1 (by omega) ⟨o4, o5⟩ o6
  rw [h3]
  exact ⟨I, play_inv I l⟩
theorem free_law {ps : List Pa} {shops cap : Int} {l : List Dd} (h : (playR ps shops cap l).2.2.1 = 0) (hc : ∀ d ∈ l, Calm d) : ∀ x ∈ (playR ps shops cap l).1.cards, RightC x ∧ x.h ≤ x.m := by
  have I := playR_inv h
  have F : Fr (playR ps shops cap l).1 := by
    rw [(playR_ok h).2.2]
    exact play_fr I.1 (start_fr _ _ _) l hc
  intro x hx
  refine ⟨I.2.held.right x hx, ?_⟩
  obtain ⟨k, hk, rfl⟩ := List.getElem_of_mem hx
  have := F.free k hk
  simpa [List.getD, hk] using this
set_option maxRecDepth 10000 in
set_option maxHeartbeats 400000 in
theorem bankFree_any (ps : List Pa) (a : Option Addr) (c : Nat) (shops cap : Int) (al : Option Addr) (cl : Nat) (l : List Dd) (w : World) (hl : Gn.Lies kPa w a c ps) (hd : Gn.Lies kDd w al cl l) (hfit : ∀ d ∈ l, FitD d) (O : Oth w) :
    Calls Tryz.prog 6 #[suv (.slice a ps.length c) shops cap, .slice al l.length cl] w fun e w' => e = .returned (.bool true) ∧ Below w.heap.size w w' := by
  have hmx := hd.len
  unfold maxLen at hmx
  have e1 := below_alloc w (suo (.slice a ps.length c) shops cap)
  have hs0 : (w.alloc (suo (.slice a ps.length c) shops cap)).heap[w.heap.size]? = some (suo (.slice a ps.length c) shops cap) := heap_alloc_at _ _ _ rfl
  have hA := alive_any (w.alloc (suo (.slice a ps.length c) shops cap)) (O.keep (e1.block 0 O.lt))
  have hP := fun (W : World) (h : Below w.heap.size w W) => play_any ps a c shops cap al cl l W (hl.below h) (hd.below h) hfit (O.keep (h.block 0 O.lt))
  unfold suv Plays at hP
  simp only [bkv_cells] at hP
  unfold Dy.fv at hP
  have hL := fun (h : (playR ps shops cap l).2.2.1 = 0) (hc : ∀ d ∈ l, Calm d) => free_law h hc
  generalize playR ps shops cap l = r at *
  obtain ⟨b, A, f⟩ := r
  dsimp only at hP hL
  have hdw := fun (W : World) (h : Below w.heap.size w W) => hd.below h
  clear hl hfit O hd
  unfold suo at hs0 e1 hA
  have zw := lt_of_block hs0
  unfold suv
  go_enter Tryz.func6, Tryz.ntmps6
  go_upto_region 1 with fail
  generalize w.alloc (.cells #[.slice a ps.length c, .int .i64 shops, .int .i64 cap] 24) = W at *
  go_upto_region 2 with fail
  refine hA.mono ?_
  rintro _ w1 ⟨rfl, hb1⟩
  clear hA
  have hbw : Below w.heap.size w w1 := e1.trans (hb1.mono e1.size)
  have hs1 : w1.heap[w.heap.size]? = some (suo (.slice a ps.length c) shops cap) := (hb1.block _ zw).trans hs0
  have zw1 := lt_of_block hs1
  clear e1 hb1 hs0 zw
  go_upto_region 4 with fail
  go_loopw [16] (fun i wr => ∃ k : Nat, k ≤ l.length ∧ i = .int .i64 k ∧ Below w1.heap.size w1 wr ∧ Hid (∀ j, j < k → Calm (l.getD j zD))) (fun i _ => l.length - (intOf i).toNat)
  case atStart => exact ⟨0, Nat.zero_le _, rfl, Below.refl _ _, hid fun j hj => by omega⟩
  case round =>
    obtain ⟨k, hk, rfl, hbr, hcm⟩ := hrel
    have hbwr : Below w.heap.size w wr := hbw.trans (hbr.mono hbw.size)
    by_cases hlt : k < l.length
    · have hlt' : (k : Int) < l.length := by omega
      obtain ⟨z, off, rfl, zlt, hcell⟩ := (hdw wr hbwr).elem (i := k) (x := l.getD k zD) (by simp [List.getD, hlt])
      have e0 := hcell 0 _ rfl
      have e1 := hcell 1 _ rfl
      have e2 := hcell 2 _ rfl
      have e3 := hcell 3 _ rfl
      have e4 := hcell 4 _ rfl
      have e5 := hcell 5 _ rfl
      simp only [Nat.add_zero] at e0
      dsimp only [kDd] at e0 e1 e2 e3 e4 e5
      have hnext : Calm (l.getD k zD) → Hid (∀ j, j < k + 1 → Calm (l.getD j zD)) := fun h => hid fun j hj => by
        by_cases e : j = k
        · rw [e]; exact h
        · exact hcm.out j (by omega)
      have hb2 := below_alloc wr (.cells #[.int .i64 (l.getD k zD).id, .int .i64 (l.getD k zD).kind, .int .i64 (l.getD k zD).n, .int .i64 (l.getD k zD).shop, .int .i64 (l.getD k zD).mv, .int .i64 (l.getD k zD).sum] 74)
      have hbn := hbr.trans (hb2.mono hbr.size)
      have hbm := hbw.trans (hbn.mono hbw.size)
      unfold Calm at hnext
      clear hcell hcm hb2 hP hL hdw
      generalize l.getD k zD = d at *
      obtain ⟨id, kind, dn, shop, mv, sum⟩ := d
      dsimp only at *
      go_upto_region 6 with fail
      by_cases k8 : kind = 8
      · subst k8
        go_wp2_with fail
        exact bodyPost_ret (results_tmp Tryz.results6 _ _ _) rfl ⟨rfl, hbm⟩
      · by_cases k3 : kind = 3
        · subst k3
          by_cases m6 : mv = 6
          · subst m6
            go_wp2_with fail
            exact bodyPost_ret (results_tmp Tryz.results6 _ _ _) rfl ⟨rfl, hbm⟩
          · have hN := hnext ⟨by omega, by omega⟩
            clear hnext
            go_wp2_with fail
            go_roundw
            case rel => exact ⟨k + 1, by omega, by go_num, hbn, hN⟩
            case measure => simp [intOf]; omega
        · have hN := hnext ⟨by omega, by omega⟩
          clear hnext
          go_wp2_with fail
          go_roundw
          case rel => exact ⟨k + 1, by omega, by go_num, hbn, hN⟩
          case measure => simp [intOf]; omega
    · obtain rfl : k = l.length := by omega
      have hge : ¬ ((l.length : Int) < l.length) := by omega
      have hcall : ∀ d ∈ l, Calm d := fun d hd => by
        obtain ⟨j, hj, rfl⟩ := List.getElem_of_mem hd
        have := hcm.out j hj
        simpa [List.getD, hj] using this
      replace hL := hid fun h => hL h hcall
      have hP1 := hP wr hbwr
      have hs2 : wr.heap[w.heap.size]? = some (suo (.slice a ps.length c) shops cap) := (hbr.block _ zw1).trans hs1
      obtain ⟨s0, s1, s2⟩ := sul_cells hs2
      clear hcm hcall hP hdw hs1 hs2 hbr hbw zw1
      go_upto_region 10 with (first
        | (go_at_call 14; refine hP1.mono ?_; rintro _ w2 ⟨v, cs, ds, va, rfl, SH, AP, hb3⟩; obtain ⟨G1, G2, G3, G4, G5⟩ := got_box w2 #[.int .i64 0, .bool false, .slice none 0 0, .slice none 0 0, .slice none 0 0, .int .i64 0, .slice none 0 0, .int .i64 0, .slice none 0 0, .int .i64 0, .int .i64 0, .slice none 0 0, .slice none 0 0, .int .i64 0, .slice none 0 0, .slice none 0 0, .slice none 0 0, .slice none 0 0, .slice none 0 0] rfl b v f; have SH2 := SH.below G5; replace G3 := bko_cells G3; obtain ⟨t0, t1, t2, t3⟩ := fo_cells G2; obtain ⟨y0, y1, y2, y3⟩ := fo_cells G4; have hone := hid SH.one; have hinf : Hid ((Tryz.prog.info? 43).map (·.size) = some (cellsK b v).size) := hid infoK; have hb4 : Below w.heap.size w _ := (hbwr.trans (hb3.mono hbwr.size)).trans (G5.mono ((hbwr.trans (hb3.mono hbwr.size)).size)); dsimp only at t0 t1 y0 y1 G3 hb4; clear G4 G5 SH AP G2 hP1 s0 s1 s2; generalize cellsK b v = cc at *)
        | (refine wpList_store_mid rfl 43 _ _ rfl w2.heap.size 0 cc rfl rfl G1 hinf.out hone.out ?_))
      generalize ((((w2.alloc (.cells #[.int .i64 0, .bool false, .slice none 0 0, .slice none 0 0, .slice none 0 0, .int .i64 0, .slice none 0 0, .int .i64 0, .slice none 0 0, .int .i64 0, .int .i64 0, .slice none 0 0, .slice none 0 0, .int .i64 0, .slice none 0 0, .slice none 0 0, .slice none 0 0, .slice none 0 0, .slice none 0 0] 43)).alloc (.cells #[.int .i64 0, .int .i64 0] 47)).setCells w2.heap.size 0 cc.toList).setCell ⟨w2.heap.size + 1, 0, none⟩ (.int .i64 f.1)).setCell ⟨w2.heap.size + 1, 1, none⟩ (.int .i64 f.2) = Z at *
      clear G1 t0 t1 t2 t3 hb3 hone hinf y1 y2 y3
      by_cases hf : f.1 = 0
      · have hL1 := hid (hL.out hf)
        rw [hf] at y0
        obtain ⟨-, -, c2, -⟩ := G3
        obtain ⟨a3, c3, hvc, l3⟩ := SH2.cards.lies
        rw [hvc] at c2
        have hcsv := hid SH2.csv
        have hm3 := l3.len
        unfold maxLen at hm3
        clear hL SH2 hvc hf
        go_upto_region 13 with fail
        go_loopw [47] (fun i X => ∃ k : Nat, k ≤ cs.length ∧ i = .int .i64 k ∧ Below Z.heap.size Z X) (fun i _ => cs.length - (intOf i).toNat)
        case atStart => exact ⟨0, Nat.zero_le _, rfl, Below.refl _ _⟩
        case round =>
          obtain ⟨k, hk, rfl, hbX⟩ := hrel
          by_cases hlt : k < cs.length
          · have hlt' : (k : Int) < cs.length := by omega
            have hx := hL1.out (cs.getD k zCV).c (by rw [← hcsv.out]; exact List.mem_map_of_mem (getD_mem' zCV hlt))
            obtain ⟨z, off, rfl, zlt, hcell⟩ := (l3.below hbX).elem (i := k) (x := cs.getD k zCV) (by simp [List.getD, hlt])
            have e0 := hcell 0 _ rfl
            have e1 := hcell 1 _ rfl
            have e2 := hcell 2 _ rfl
            have e3 := hcell 3 _ rfl
            have e4 := hcell 4 _ rfl
            have e5 := hcell 5 _ rfl
            simp only [Nat.add_zero] at e0
            dsimp only [kC] at e0 e1 e2 e3 e4 e5
            have hb5 := below_alloc wr (.cells #[.int .i64 (cs.getD k zCV).c.m, .int .i64 (cs.getD k zCV).c.h, .int .i64 (cs.getD k zCV).c.p.t, .int .i64 (cs.getD k zCV).c.p.c, .int .i64 (cs.getD k zCV).c.p.s, .slice (cs.getD k zCV).a (cs.getD k zCV).c.u.length (cs.getD k zCV).cap] 61)
            have hbn := hbX.trans (hb5.mono hbX.size)
            have hF := fun Y => free_any (cs.getD k zCV).c (cs.getD k zCV).a (cs.getD k zCV).cap Y hx.1.m1 hx.1.m2 hx.1.h1 hx.1.h2
            have hg : ¬ ((cs.getD k zCV).c.m - (cs.getD k zCV).c.h < 0) := by have := hx.2; omega
            unfold cv at hF
            clear hx hcell hb5
            generalize cs.getD k zCV = x at *
            go_upto_region 16 with (go_at_call 28; refine (hF _).mono ?_; rintro _ w5 ⟨rfl, hb6⟩)
            have hbf := hbn.trans (hb6.mono hbn.size)
            go_wp2_with fail
            go_roundw
            case rel => exact ⟨k + 1, by omega, by go_num, hbf⟩
            case measure => simp [intOf]; omega
          · obtain rfl : k = cs.length := by omega
            have hge2 : ¬ ((cs.length : Int) < cs.length) := by omega
            have hbf := hb4.trans (hbX.mono hb4.size)
            go_wp2_with fail
            exact bodyPost_ret (results_tmp Tryz.results6 _ _ _) rfl ⟨rfl, hbf⟩
      · clear hL G3 SH2
        go_wp2_with fail
        exact bodyPost_ret (results_tmp Tryz.results6 _ _ _) rfl ⟨rfl, hb4⟩
end Go.Proofs.YtodkcagingnelacGreatDoor.Bn
