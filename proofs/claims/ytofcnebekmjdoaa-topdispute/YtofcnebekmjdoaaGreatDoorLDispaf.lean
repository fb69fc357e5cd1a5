import Derived.Test.YtofcnebekmjdoaaGreatDoorLDispae
set_option maxHeartbeats 4000000
set_option maxRecDepth 100000
namespace Go.Proofs.YtofcnebekmjdoaaGreatDoor.Bn
open Go.RowKit Go.Proofs.YtofcnebekmjdoaaGreatDoor.Gn Go.Maps
def dis3 (has paid : Int) : List Dd := [⟨0, 1, 0, 0, 0, has⟩, ⟨0, 2, 0, 0, 0, paid⟩, ⟨0, 3, 0, 0, 2, paid⟩]
theorem dis_pre (has paid : Int) : dis3 has paid ++ comeL 5 = paidL has paid := by
 unfold paidL dis3
 simp [dLoad, dAsk, dMove]
def disL (has paid n : Int) : List Dd := paidL has paid ++ [⟨0, 3, 0, 0, 6, n⟩]
def setL (has paid n k : Int) : List Dd := (disL has paid n ++ [⟨0, 3, 0, 0, k, n⟩]) ++ comeL 5
theorem dis_ids (has paid n : Int) : ∀ d ∈ disL has paid n, d.id = 0 := by
 intro d hd
 unfold disL at hd
 rw [← dis_pre] at hd
 rcases List.mem_append.1 hd with h | h
 ·rcases List.mem_append.1 h with h | h
  ·simp [dis3] at h; rcases h with rfl | rfl | rfl <;> rfl
  ·exact come0 d h
 ·simp at h; rw [h]
theorem set_ids (has paid n k : Int) : ∀ d ∈ setL has paid n k, d.id = 0 := by
 intro d hd
 unfold setL at hd
 rcases List.mem_append.1 hd with h | h
 ·rcases List.mem_append.1 h with h | h
  ·exact dis_ids has paid n d h
  ·simp at h; rw [h]
 ·exact come0 d h
theorem dis_len (has paid n : Int) : (disL has paid n).length = 28 := by
 unfold disL
 rw [← dis_pre, List.length_append, List.length_append, come_len]; rfl
theorem set_len (has paid n k : Int) : (setL has paid n k).length = 53 := by
 unfold setL
 rw [List.length_append, List.length_append, dis_len, come_len]; rfl
theorem dis_facts {has paid n : Int} (h1 : 1 ≤ n) (h2 : n ≤ paid) (h3 : paid ≤ has) (h4 : has ≤ 100000) {W W' : World} {v : Vs} {cs : List CV} {ds : List DV} (SH : Shows W (run (topS 0) (disL has paid n)) v cs ds) (hb : Below W.heap.size W W') :
  ∃ (z3 o3 c3 : Nat) (a4 : Option Addr) (n4 c4 : Nat), v.c = .slice (some ⟨z3, o3, none⟩) 2 c3 ∧ W'.cell? ⟨z3, o3, none⟩ = some (.int .i64 (has - paid + n)) ∧ v.bk = .slice a4 n4 c4 ∧
   (∀ Y, Below W'.heap.size W' Y → Calls Tryz.prog 25 #[.slice a4 n4 c4, .int .i64 2] Y fun e w' => e = .returned (.int .i64 (-n)) ∧ Below Y.heap.size Y w') := by
 obtain ⟨p1, p2, -, -⟩ := dispute_plain h1 h2 h3 h4
 have hd : disL has paid n = paidL has paid ++ [dMove 6 0 n] := rfl
 rw [← hd] at p1 p2
 have I : Inv (topS 0) := top_inv (by decide)
 have hlen := run_lens I (disL has paid n)
 have S2 := SH.below hb
 obtain ⟨z3, o3, c3, x, hx, hv, f3⟩ := card_at S2 (n := 2) (k := 0) (hlen.1.trans rfl) (by decide)
 obtain ⟨a4, c4, hk, l4⟩ := S2.book.lies
 have x0 := f3 0 _ rfl
 rw [hx, p1] at x0
 refine ⟨z3, o3, c3, a4, _, c4, hv, by simpa using x0, hk, fun Y hY => ?_⟩
 have := Bk.get_any a4 c4 (run (topS 0) (disL has paid n)).book 2 Y (lies_ents (l4.below hY))
 rw [p2] at this
 exact this
theorem set_facts {has paid n : Int} (h1 : 1 ≤ n) (h2 : n ≤ paid) (h3 : paid ≤ has) (h4 : has ≤ 100000) (shop : Bool) {W W' : World} {v : Vs} {cs : List CV} {ds : List DV} (SH : Shows W (run (topS 0) (setL has paid n (if shop = true then 8 else 7))) v cs ds) (hb : Below W.heap.size W W') :
  ∃ (z2 o2 c2 z3 o3 c3 : Nat) (a4 : Option Addr) (n4 c4 : Nat), v.c = .slice (some ⟨z3, o3, none⟩) 2 c3 ∧ W'.cell? ⟨z3, o3, none⟩ = some (.int .i64 (if shop = true then has - paid else has - paid + n)) ∧ v.d = .slice (some ⟨z2, o2, none⟩) 2 c2 ∧ W'.cell? ⟨z2, o2, none⟩ = some (.int .i64 (if shop = true then paid else paid - n)) ∧ v.bk = .slice a4 n4 c4 ∧
   (∀ Y, Below W'.heap.size W' Y → Calls Tryz.prog 25 #[.slice a4 n4 c4, .int .i64 2] Y fun e w' => e = .returned (.int .i64 0) ∧ Below Y.heap.size Y w') := by
 obtain ⟨-, -, p3, p4⟩ := dispute_plain h1 h2 h3 h4
 have I : Inv (topS 0) := top_inv (by decide)
 have hlen := run_lens I (setL has paid n (if shop = true then 8 else 7))
 have hp : ((run (topS 0) (setL has paid n (if shop = true then 8 else 7))).cards.getD 0 zeroC).m = (if shop = true then has - paid else has - paid + n) ∧ (run (topS 0) (setL has paid n (if shop = true then 8 else 7))).due.getD 0 0 = (if shop = true then paid else paid - n) ∧ Bk.getE (run (topS 0) (setL has paid n (if shop = true then 8 else 7))).book 2 = 0 := by
  cases shop
  ·exact p3 _ rfl
  ·exact p4 _ rfl
 obtain ⟨p5, p6, p7⟩ := hp
 have S2 := SH.below hb
 obtain ⟨z3, o3, c3, x, hx, hv, f3⟩ := card_at S2 (n := 2) (k := 0) (hlen.1.trans rfl) (by decide)
 obtain ⟨z2, o2, c2, hd, f2⟩ := due_at S2 (n := 2) (k := 0) (hlen.2.trans rfl) (by decide)
 obtain ⟨a4, c4, hk, l4⟩ := S2.book.lies
 have x0 := f3 0 _ rfl
 rw [hx, p5] at x0
 rw [p6] at f2
 refine ⟨z2, o2, c2, z3, o3, c3, a4, _, c4, hv, by simpa using x0, hd, by simpa using f2, hk, fun Y hY => ?_⟩
 have := Bk.get_any a4 c4 (run (topS 0) (setL has paid n (if shop = true then 8 else 7))).book 2 Y (lies_ents (l4.below hY))
 rw [p7] at this
 exact this
theorem dis_any (has paid n : Int) (shop : Bool) (w : World) (_ : -9223372036854775808 ≤ has ∧ has ≤ 9223372036854775807) (_ : -9223372036854775808 ≤ paid ∧ paid ≤ 9223372036854775807) (_ : -9223372036854775808 ≤ n ∧ n ≤ 9223372036854775807) (O : Oth w) :
  Calls Tryz.prog 15 #[.int .i64 has, .int .i64 paid, .int .i64 n, .bool shop] w fun e w' => e = .returned (.bool true) ∧ Below w.heap.size w w' := by
 have hA := talive_any w O
 have hS := fun (X : World) => tsetup_any 0 X
 have hD := fun (k n s : Int) (X : World) => tdo_any k n s X
 have hM := fun (k n s : Int) (X : World) => tmove_any k n s X
 unfold ddv at hD hM
 go_enter Tryz.func15, Tryz.ntmps15
 go_upto_region 1 with fail
 go_upto_region 2 with fail
 refine hA.mono ?_
 rintro _ w1 ⟨rfl, hb1⟩
 clear hA
 have e2 := below_alloc w1 (.cells #[.int .i64 has, .int .i64 paid, .int .i64 n] 3)
 have hl2 : Gn.Lies kI (w1.alloc (.cells #[.int .i64 has, .int .i64 paid, .int .i64 n] 3)) (some ⟨w1.heap.size, 0, none⟩) 3 [has, paid, n] := lies_blk (K := kI) (L := [has, paid, n]) (heap_alloc_at _ _ _ rfl) rfl (by simp [maxLen]) _
 have hSm := small_any _ _ _ _ hl2
 have hb2 := hb1.trans (e2.mono hb1.size)
 have hl2' : [has, paid, n].length = 3 := rfl
 rw [hl2'] at hSm
 have hsm := @small_three has paid n
 generalize smallB [has, paid, n] = sm at *
 clear e2 hl2 hl2'
 go_upto_region 3 with fail
 go_upto_region 4 with fail
 refine hSm.mono ?_
 rintro _ w3 ⟨rfl, hb3⟩
 have hbw : Below w.heap.size w w3 := hb2.trans (hb3.mono hb2.size)
 clear hSm hb1 hb2 hb3
 cases sm with
 | false =>
  clear hS hD hM
  go_wp2_with fail
  exact bodyPost_ret (results_tmp Tryz.results15 _ _ _) rfl ⟨rfl, hbw⟩
 | true =>
  have hsm' := hsm rfl
  clear hsm
  by_cases c2 : has < paid
  ·clear hS hD hM
   go_wp2_with fail
   exact bodyPost_ret (results_tmp Tryz.results15 _ _ _) rfl ⟨rfl, hbw⟩
  by_cases c3 : paid < n
  ·clear hS hD hM
   go_wp2_with fail
   exact bodyPost_ret (results_tmp Tryz.results15 _ _ _) rfl ⟨rfl, hbw⟩
  have hC := fun (X : World) (v : Value) (base : Nat) (l : List Dd) (h1 : Row kDd 74 X base v l) (h2 : base ≤ X.heap.size) (h3 : l.length ≤ 100) => come_any v l base X h1 h2 h3
  have hP := fun (W : World) (a : Option Addr) (c : Nat) (al : Option Addr) (cl : Nat) (h : Gn.Lies kPa W a c psT) (hd : Gn.Lies kDd W al cl (disL has paid n)) (hO : Oth W) => play_any psT a c 2 0 al cl (disL has paid n) W h hd (fit0 (dis_ids has paid n)) hO
  have hF := fun (W W' : World) (v : Vs) (cs : List CV) (ds : List DV) SH hb => dis_facts (has := has) (paid := paid) (n := n) (W := W) (W' := W') (v := v) (cs := cs) (ds := ds) hsm'.2.2.2.2.1 (by omega) (by omega) hsm'.2.1 SH hb
  have hQ := fun (W : World) (a : Option Addr) (c : Nat) (al : Option Addr) (cl : Nat) (h : Gn.Lies kPa W a c psT) (hd : Gn.Lies kDd W al cl (setL has paid n (if shop = true then 8 else 7))) (hO : Oth W) => play_any psT a c 2 0 al cl (setL has paid n (if shop = true then 8 else 7)) W h hd (fit0 (set_ids has paid n (if shop = true then 8 else 7))) hO
  have hF2 := fun (W W' : World) (v : Vs) (cs : List CV) (ds : List DV) SH hb => set_facts (has := has) (paid := paid) (n := n) (W := W) (W' := W') (v := v) (cs := cs) (ds := ds) hsm'.2.2.2.2.1 (by omega) (by omega) hsm'.2.1 shop SH hb
  rw [playR_top (by decide) (dis_ids has paid n) (by rw [dis_len]; decide), show psT.length = 2 from rfl, dis_len] at hP
  rw [playR_top (by decide) (set_ids has paid n _) (by rw [set_len]; decide), show psT.length = 2 from rfl, set_len] at hQ
  unfold Plays at hP hQ
  dsimp only at hP hQ
  generalize run (topS 0) (disL has paid n) = b at *
  generalize ansL (topS 0) (disL has paid n) = A at *
  generalize run (topS 0) (setL has paid n (if shop = true then 8 else 7)) = b2 at *
  generalize ansL (topS 0) (setL has paid n (if shop = true then 8 else 7)) = A2 at *
  simp only [bkv_cells] at hP hQ
  unfold suv at hS hP hQ
  unfold Dy.fv at hP hQ
  go_upto_region 5 with fail
  go_upto_region 6 with fail
  refine (hD _ _ _ _).mono ?_
  rintro _ w4 ⟨rfl, hb4⟩
  go_upto_region 6 with fail
  refine (hD _ _ _ _).mono ?_
  rintro _ w4' ⟨rfl, hb4'⟩
  go_upto_region 6 with fail
  refine (hM _ _ _ _).mono ?_
  rintro _ w5 ⟨rfl, hb5⟩
  have hb35 := (hb4.trans (hb4'.mono hb4.size)).trans (hb5.mono (Nat.le_trans hb4.size hb4'.size))
  have e6 := below_alloc w5 (.cells #[.int .i64 0, .int .i64 1, .int .i64 0, .int .i64 0, .int .i64 0, .int .i64 has, .int .i64 0, .int .i64 2, .int .i64 0, .int .i64 0, .int .i64 0, .int .i64 paid, .int .i64 0, .int .i64 3, .int .i64 0, .int .i64 0, .int .i64 2, .int .i64 paid] 74)
  have hd6 : Gn.Lies kDd (w5.alloc (.cells #[.int .i64 0, .int .i64 1, .int .i64 0, .int .i64 0, .int .i64 0, .int .i64 has, .int .i64 0, .int .i64 2, .int .i64 0, .int .i64 0, .int .i64 0, .int .i64 paid, .int .i64 0, .int .i64 3, .int .i64 0, .int .i64 0, .int .i64 2, .int .i64 paid] 74)) (some ⟨w5.heap.size, 0, none⟩) 3 (dis3 has paid) := lies_blk (K := kDd) (L := dis3 has paid) (heap_alloc_at _ _ _ rfl) rfl (by simp [dis3, maxLen]) _
  have hR6 : Row kDd 74 (w5.alloc (.cells #[.int .i64 0, .int .i64 1, .int .i64 0, .int .i64 0, .int .i64 0, .int .i64 has, .int .i64 0, .int .i64 2, .int .i64 0, .int .i64 0, .int .i64 0, .int .i64 paid, .int .i64 0, .int .i64 3, .int .i64 0, .int .i64 0, .int .i64 2, .int .i64 paid] 74)) w5.heap.size (.slice (some ⟨w5.heap.size, 0, none⟩) 3 3) (dis3 has paid) := Row.full (L := dis3 has paid) w5.heap.size (Nat.le_refl _) hd6 (by simp)
  have hC6 := hC _ _ _ _ hR6 (by simp) (by simp [dis3])
  have hbw5 := hbw.trans (hb35.mono hbw.size)
  clear hR6 hd6 hb4 hb4' hb5 hb35 hbw hD
  go_upto_region 6 with fail
  refine hC6.mono ?_
  rintro _ w7 ⟨v7, rfl, C7⟩
  rw [dis_pre] at C7
  have C7' : Cg w7 w7 v7 w5.heap.size v7 (paidL has paid) := cg_start C7.row C7.size
  have hbw7 : Below w.heap.size w w7 := hbw5.trans ((e6.trans C7.bel).mono hbw5.size)
  have hw5 := hbw5.size
  have hpl : (paidL has paid).length = 27 := by rw [← dis_pre, List.length_append, come_len]; rfl
  clear hC6 e6 C7 hbw5
  go_upto_region 6 with fail
  go_upto_region 7 with fail
  refine (hM _ _ _ _).mono ?_
  rintro _ w9 ⟨rfl, hb9⟩
  have e10 := below_alloc w9 (.cells #[.int .i64 0, .int .i64 3, .int .i64 0, .int .i64 0, .int .i64 6, .int .i64 n] 74)
  have hone : Gn.Lies kDd (w9.alloc (.cells #[.int .i64 0, .int .i64 3, .int .i64 0, .int .i64 0, .int .i64 6, .int .i64 n] 74)) (some ⟨w9.heap.size, 0, none⟩) 1 [⟨0, 3, 0, 0, 6, n⟩] := lies_blk (K := kDd) (L := [⟨0, 3, 0, 0, 6, n⟩]) (heap_alloc_at _ _ _ rfl) rfl (by simp [maxLen]) _
  have hbX := hb9.trans (e10.mono hb9.size)
  have hrow := C7'.row.below hbX
  have hsz := Nat.le_trans C7'.size hbX.size
  clear e10
  go_upto_region 7 with (at_builtin; refine wpList_append elemDd _ rfl _ _ rfl w5.heap.size v7 (paidL has paid) rfl hrow _ 1 1 [⟨0, 3, 0, 0, 6, n⟩] rfl rfl hone (by rw [hpl]; simp [maxLen]) (by rw [hpl]; simp) hsz ?_; intro v11 w11 hown hgrow hat hon)
  have C8 : Cg w7 w11 v7 w5.heap.size v11 (disL has paid n) := C7'.grow hbX _ hown hgrow hat
  have hbw11 : Below w.heap.size w w11 := hbw7.trans (C8.bel.mono hw5)
  have C9 : Cg w11 w11 v11 w5.heap.size v11 (disL has paid n) := cg_start C8.row C8.size
  clear hown hgrow hat hon hrow hsz hbX hone C7' C8 hbw7 hb9 hpl
  go_upto_region 8 with fail
  refine (hS _).mono ?_
  rintro _ w12 ⟨za, c, rfl, hl, hb12, hza⟩
  have hbw12 := hbw11.trans (hb12.mono hbw11.size)
  have C10 : Row kDd 74 w12 w5.heap.size v11 (disL has paid n) := C9.row.below hb12
  obtain ⟨al, cl, rfl, hd12, -⟩ := C10.lies
  have hP1 := hP w12 _ _ _ _ hl hd12 (O.keep (hbw12.block 0 O.lt))
  have hsz12 := Nat.le_trans C9.size hb12.size
  rw [dis_len] at C9 C10 ⊢
  clear hP hl hd12 hza C9 hb12 hbw11
  go_upto_region 8 with (first
   | (go_at_call 18; refine hP1.mono ?_; rintro _ w2 ⟨v, cs, ds, va, rfl, SH, AP, hb3⟩; obtain ⟨G1, G2, G3, G4, G5⟩ := got_box w2 #[.int .i64 0, .bool false, .slice none 0 0, .slice none 0 0, .slice none 0 0, .int .i64 0, .slice none 0 0, .int .i64 0, .slice none 0 0, .int .i64 0, .int .i64 0, .slice none 0 0, .slice none 0 0, .int .i64 0, .slice none 0 0, .slice none 0 0, .slice none 0 0, .slice none 0 0, .slice none 0 0] rfl b v (0, 0); have hF1 := hF _ _ _ _ _ SH G5; replace G3 := bko_cells G3; obtain ⟨t0, t1, t2, t3⟩ := fo_cells G2; obtain ⟨y0, y1, y2, y3⟩ := fo_cells G4; have hone := hid SH.one; have hinf : Hid ((Tryz.prog.info? 43).map (·.size) = some (cellsK b v).size) := hid infoK; have hb4 : Below w.heap.size w _ := (hbw12.trans (hb3.mono hbw12.size)).trans (G5.mono ((hbw12.trans (hb3.mono hbw12.size)).size)); have hg2 := G4; have hbZ := hb3.trans (G5.mono hb3.size); have hrZ := C10.below hbZ; have hsZ := Nat.le_trans hsz12 hbZ.size; have hgne : (Value.slice al 28 cl).ownBlock ≠ some (w2.heap.size + 1) := fun e => (by have h1 := (C10.block_lt _ e).2; have h2 := hb3.size; omega); dsimp only at t0 t1 y0 y1 G3 hb4 hF1; clear G4 G5 SH AP G2 hP1 hF C10 hbw12; generalize cellsK b v = cc at *)
   | (refine wpList_store_mid rfl 43 _ _ rfl w2.heap.size 0 cc rfl rfl G1 hinf.out hone.out ?_))
  generalize ((((w2.alloc (.cells #[.int .i64 0, .bool false, .slice none 0 0, .slice none 0 0, .slice none 0 0, .int .i64 0, .slice none 0 0, .int .i64 0, .slice none 0 0, .int .i64 0, .int .i64 0, .slice none 0 0, .slice none 0 0, .int .i64 0, .slice none 0 0, .slice none 0 0, .slice none 0 0, .slice none 0 0, .slice none 0 0] 43)).alloc (.cells #[.int .i64 0, .int .i64 0] 47)).setCells w2.heap.size 0 cc.toList).setCell ⟨w2.heap.size + 1, 0, none⟩ (.int .i64 0)).setCell ⟨w2.heap.size + 1, 1, none⟩ (.int .i64 0) = Z at *
  obtain ⟨z3, o3, c3', a4, n4, c4', hvc, f1, hvb, hg0⟩ := hF1
  obtain ⟨-, -, q2, -, -, -, -, -, -, -, -, -, -, -, -, -, -, -, q18⟩ := G3
  rw [hvc] at q2
  rw [hvb] at q18
  clear hvc hvb G1 t0 t1 t2 t3 hb3 hone hinf hbZ
  go_upto_region 9 with fail
  refine (hg0 _ (Below.refl _ _)).mono ?_
  rintro _ w13 ⟨rfl, hb13⟩
  have hbw13 := hb4.trans (hb13.mono hb4.size)
  have hg13 := (hb13.block _ (lt_of_block hg2)).trans hg2
  have hr13 := hrZ.below hb13
  have hs13 := Nat.le_trans hsZ hb13.size
  clear hg0 q2 q18 f1 hg2 hrZ hsZ hb4 hb13 y0 y1 y2 y3
  go_upto_region 11 with fail
  cases shop with
  | false =>
   simp only [Bool.false_eq_true, if_false] at hQ hF2
   go_upto_region 13 with fail
   go_upto_region 14 with fail
   refine (hS _).mono ?_
   rintro _ w14 ⟨za, c, rfl, hl, hb14, hza⟩
   go_upto_region 14 with fail
   refine (hM _ _ _ _).mono ?_
   rintro _ w15 ⟨rfl, hb15⟩
   have e16 := below_alloc w15 (.cells #[.int .i64 0, .int .i64 3, .int .i64 0, .int .i64 0, .int .i64 7, .int .i64 n] 74)
   have hone : Gn.Lies kDd (w15.alloc (.cells #[.int .i64 0, .int .i64 3, .int .i64 0, .int .i64 0, .int .i64 7, .int .i64 n] 74)) (some ⟨w15.heap.size, 0, none⟩) 1 [⟨0, 3, 0, 0, 7, n⟩] := lies_blk (K := kDd) (L := [⟨0, 3, 0, 0, 7, n⟩]) (heap_alloc_at _ _ _ rfl) rfl (by simp [maxLen]) _
   have hbX := (hb14.trans (hb15.mono hb14.size)).trans (e16.mono (Nat.le_trans hb14.size hb15.size))
   have hrow := hr13.below hbX
   have hsz := Nat.le_trans hs13 hbX.size
   have hne : ∀ ad, (some (⟨za, 0, none⟩ : Addr)) = some ad → (Value.slice al 28 cl).ownBlock ≠ some ad.block := fun ad h e => by
    cases h
    have := (hr13.block_lt _ e).2
    dsimp only at this
    omega
   have hlX := hl.below (hb15.trans (e16.mono hb15.size))
   have hbwX := hbw13.trans (hbX.mono hbw13.size)
   have hgX := (hbX.block _ (lt_of_block hg13)).trans hg13
   clear e16 hb14 hb15 hl hM hS
   go_upto_region 14 with (at_builtin; refine wpList_append elemDd _ rfl _ _ rfl w5.heap.size (.slice al 28 cl) (disL has paid n) rfl hrow _ 1 1 [⟨0, 3, 0, 0, 7, n⟩] rfl rfl hone (by rw [dis_len]; simp [maxLen]) (by rw [dis_len]; simp) hsz ?_; intro v16 w16 hown hgrow hat hon)
   have hbw16 := below_grown hbwX hgrow hrow hw5 (Nat.le_trans hw5 hsz)
   have hl16 := hlX.grown hgrow hne
   have hg16 := (hgrow.block _ (lt_of_block hgX) (fun e => hgne e.symm)).trans hgX
   have ha16 : v16.ownBlock ≠ some za := fun e => by
    rcases hat _ e with h | h
    ·exact hne _ rfl h
    ·have := lies_lt hlX (by simp [psT]) _ rfl
     dsimp only at this
     omega
   have hk16 : v16.ownBlock ≠ some (w2.heap.size + 1) := fun e => by
    rcases hat _ e with h | h
    ·exact hgne h
    ·have := lt_of_block hgX
     omega
   have hC16 := hC w16 v16 w5.heap.size _ hown (Nat.le_trans hsz hgrow.size) (by rw [List.length_append, dis_len]; simp)
   clear hC hgX hgrow hat hon hrow hsz hone hbX hne hlX hbwX hgne hown
   go_upto_region 14 with fail
   refine hC16.mono ?_
   rintro _ w17 ⟨v17, rfl, C17⟩
   have hbw17 : Below w.heap.size w w17 := hbw16.trans (C17.bel.mono hw5)
   have hg17 := (C17.keep _ (lt_of_block hg16) hk16).trans hg16
   have hl17 : Gn.Lies kPa w17 (some ⟨za, 0, none⟩) c psT := hl16.keep C17.big fun ad h hlt => by
    cases h
    exact C17.keep _ hlt ha16
   have hrow17 : Row kDd 74 w17 w5.heap.size v17 (setL has paid n 7) := C17.row
   obtain ⟨al2, cl2, rfl, hd17, -⟩ := hrow17.lies
   have hP2 := hQ w17 _ _ _ _ hl17 hd17 (O.keep (hbw17.block 0 O.lt))
   rw [set_len]
   clear hQ hl16 hl17 hd17 hrow17 C17 hC16 hbw16 hg16 ha16 hk16
   go_upto_region 14 with (first
    | (go_at_call 18; refine hP2.mono ?_; rintro _ w22 ⟨v2, cs2, ds2, va2, rfl, SH, AP, hb3⟩; obtain ⟨E1, E2, E3, E4, E5⟩ := got_again w22 #[.int .i64 0, .bool false, .slice none 0 0, .slice none 0 0, .slice none 0 0, .int .i64 0, .slice none 0 0, .int .i64 0, .slice none 0 0, .int .i64 0, .int .i64 0, .slice none 0 0, .slice none 0 0, .int .i64 0, .slice none 0 0, .slice none 0 0, .slice none 0 0, .slice none 0 0, .slice none 0 0] rfl b2 v2 (w2.heap.size + 1) ((hb3.block _ (lt_of_block hg17)).trans hg17); have hF21 := hF2 _ _ _ _ _ SH E5; replace E3 := bko_cells E3; obtain ⟨t0, t1, t2, t3⟩ := fo_cells E2; obtain ⟨y0, y1, y2, y3⟩ := fo_cells E4; have hone := hid SH.one; have hinf : Hid ((Tryz.prog.info? 43).map (·.size) = some (cellsK b2 v2).size) := hid infoK; have hb5 : Below w.heap.size w _ := (hbw17.trans (hb3.mono hbw17.size)).trans (E5.mono ((hbw17.trans (hb3.mono hbw17.size)).size)); dsimp only at t0 t1 y0 y1 E3 hb5 hF21; clear E4 E5 SH AP E2 hP2 hF2 hbw17 hg17; generalize cellsK b2 v2 = cc2 at *)
    | (refine wpList_store_mid rfl 43 _ _ rfl w22.heap.size 0 cc2 rfl rfl E1 hinf.out hone.out ?_))
   generalize (((w22.alloc (.cells #[.int .i64 0, .bool false, .slice none 0 0, .slice none 0 0, .slice none 0 0, .int .i64 0, .slice none 0 0, .int .i64 0, .slice none 0 0, .int .i64 0, .int .i64 0, .slice none 0 0, .slice none 0 0, .int .i64 0, .slice none 0 0, .slice none 0 0, .slice none 0 0, .slice none 0 0, .slice none 0 0] 43)).setCells w22.heap.size 0 cc2.toList).setCell ⟨w2.heap.size + 1, 0, none⟩ (.int .i64 0)).setCell ⟨w2.heap.size + 1, 1, none⟩ (.int .i64 0) = Z2 at *
   obtain ⟨z5, o5, c5, z6, o6, c6, a7, n7, c7, hvc, f1, hvd, f2, hvb, hg0⟩ := hF21
   obtain ⟨-, -, q2, q3, -, -, -, -, -, -, -, -, -, -, -, -, -, -, q18⟩ := E3
   rw [hvc] at q2
   rw [hvd] at q3
   rw [hvb] at q18
   clear hvc hvd hvb E1 t0 t1 t2 t3 hb3 hone hinf
   go_wp2_with fail
   refine (hg0 _ (Below.refl _ _)).mono ?_
   rintro _ w30 ⟨rfl, hb30⟩
   have hbf := hb5.trans (hb30.mono hb5.size)
   go_wp2_with fail
   exact bodyPost_ret (results_tmp Tryz.results15 _ _ _) rfl ⟨by simp, hbf⟩
  | true =>
   simp only [if_true] at hQ hF2
   go_upto_region 13 with fail
   go_upto_region 14 with fail
   refine (hS _).mono ?_
   rintro _ w14 ⟨za, c, rfl, hl, hb14, hza⟩
   go_upto_region 14 with fail
   refine (hM _ _ _ _).mono ?_
   rintro _ w15 ⟨rfl, hb15⟩
   have e16 := below_alloc w15 (.cells #[.int .i64 0, .int .i64 3, .int .i64 0, .int .i64 0, .int .i64 8, .int .i64 n] 74)
   have hone : Gn.Lies kDd (w15.alloc (.cells #[.int .i64 0, .int .i64 3, .int .i64 0, .int .i64 0, .int .i64 8, .int .i64 n] 74)) (some ⟨w15.heap.size, 0, none⟩) 1 [⟨0, 3, 0, 0, 8, n⟩] := lies_blk (K := kDd) (L := [⟨0, 3, 0, 0, 8, n⟩]) (heap_alloc_at _ _ _ rfl) rfl (by simp [maxLen]) _
   have hbX := (hb14.trans (hb15.mono hb14.size)).trans (e16.mono (Nat.le_trans hb14.size hb15.size))
   have hrow := hr13.below hbX
   have hsz := Nat.le_trans hs13 hbX.size
   have hne : ∀ ad, (some (⟨za, 0, none⟩ : Addr)) = some ad → (Value.slice al 28 cl).ownBlock ≠ some ad.block := fun ad h e => by
    cases h
    have := (hr13.block_lt _ e).2
    dsimp only at this
    omega
   have hlX := hl.below (hb15.trans (e16.mono hb15.size))
   have hbwX := hbw13.trans (hbX.mono hbw13.size)
   have hgX := (hbX.block _ (lt_of_block hg13)).trans hg13
   clear e16 hb14 hb15 hl hM hS
   go_upto_region 14 with (at_builtin; refine wpList_append elemDd _ rfl _ _ rfl w5.heap.size (.slice al 28 cl) (disL has paid n) rfl hrow _ 1 1 [⟨0, 3, 0, 0, 8, n⟩] rfl rfl hone (by rw [dis_len]; simp [maxLen]) (by rw [dis_len]; simp) hsz ?_; intro v16 w16 hown hgrow hat hon)
   have hbw16 := below_grown hbwX hgrow hrow hw5 (Nat.le_trans hw5 hsz)
   have hl16 := hlX.grown hgrow hne
   have hg16 := (hgrow.block _ (lt_of_block hgX) (fun e => hgne e.symm)).trans hgX
   have ha16 : v16.ownBlock ≠ some za := fun e => by
    rcases hat _ e with h | h
    ·exact hne _ rfl h
    ·have := lies_lt hlX (by simp [psT]) _ rfl
     dsimp only at this
     omega
   have hk16 : v16.ownBlock ≠ some (w2.heap.size + 1) := fun e => by
    rcases hat _ e with h | h
    ·exact hgne h
    ·have := lt_of_block hgX
     omega
   have hC16 := hC w16 v16 w5.heap.size _ hown (Nat.le_trans hsz hgrow.size) (by rw [List.length_append, dis_len]; simp)
   clear hC hgX hgrow hat hon hrow hsz hone hbX hne hlX hbwX hgne hown
   go_upto_region 14 with fail
   refine hC16.mono ?_
   rintro _ w17 ⟨v17, rfl, C17⟩
   have hbw17 : Below w.heap.size w w17 := hbw16.trans (C17.bel.mono hw5)
   have hg17 := (C17.keep _ (lt_of_block hg16) hk16).trans hg16
   have hl17 : Gn.Lies kPa w17 (some ⟨za, 0, none⟩) c psT := hl16.keep C17.big fun ad h hlt => by
    cases h
    exact C17.keep _ hlt ha16
   have hrow17 : Row kDd 74 w17 w5.heap.size v17 (setL has paid n 8) := C17.row
   obtain ⟨al2, cl2, rfl, hd17, -⟩ := hrow17.lies
   have hP2 := hQ w17 _ _ _ _ hl17 hd17 (O.keep (hbw17.block 0 O.lt))
   rw [set_len]
   clear hQ hl16 hl17 hd17 hrow17 C17 hC16 hbw16 hg16 ha16 hk16
   go_upto_region 14 with (first
    | (go_at_call 18; refine hP2.mono ?_; rintro _ w22 ⟨v2, cs2, ds2, va2, rfl, SH, AP, hb3⟩; obtain ⟨E1, E2, E3, E4, E5⟩ := got_again w22 #[.int .i64 0, .bool false, .slice none 0 0, .slice none 0 0, .slice none 0 0, .int .i64 0, .slice none 0 0, .int .i64 0, .slice none 0 0, .int .i64 0, .int .i64 0, .slice none 0 0, .slice none 0 0, .int .i64 0, .slice none 0 0, .slice none 0 0, .slice none 0 0, .slice none 0 0, .slice none 0 0] rfl b2 v2 (w2.heap.size + 1) ((hb3.block _ (lt_of_block hg17)).trans hg17); have hF21 := hF2 _ _ _ _ _ SH E5; replace E3 := bko_cells E3; obtain ⟨t0, t1, t2, t3⟩ := fo_cells E2; obtain ⟨y0, y1, y2, y3⟩ := fo_cells E4; have hone := hid SH.one; have hinf : Hid ((Tryz.prog.info? 43).map (·.size) = some (cellsK b2 v2).size) := hid infoK; have hb5 : Below w.heap.size w _ := (hbw17.trans (hb3.mono hbw17.size)).trans (E5.mono ((hbw17.trans (hb3.mono hbw17.size)).size)); dsimp only at t0 t1 y0 y1 E3 hb5 hF21; clear E4 E5 SH AP E2 hP2 hF2 hbw17 hg17; generalize cellsK b2 v2 = cc2 at *)
    | (refine wpList_store_mid rfl 43 _ _ rfl w22.heap.size 0 cc2 rfl rfl E1 hinf.out hone.out ?_))
   generalize (((w22.alloc (.cells #[.int .i64 0, .bool false, .slice none 0 0, .slice none 0 0, .slice none 0 0, .int .i64 0, .slice none 0 0, .int .i64 0, .slice none 0 0, .int .i64 0, .int .i64 0, .slice none 0 0, .slice none 0 0, .int .i64 0, .slice none 0 0, .slice none 0 0, .slice none 0 0, .slice none 0 0, .slice none 0 0] 43)).setCells w22.heap.size 0 cc2.toList).setCell ⟨w2.heap.size + 1, 0, none⟩ (.int .i64 0)).setCell ⟨w2.heap.size + 1, 1, none⟩ (.int .i64 0) = Z2 at *
   obtain ⟨z5, o5, c5, z6, o6, c6, a7, n7, c7, hvc, f1, hvd, f2, hvb, hg0⟩ := hF21
   obtain ⟨-, -, q2, q3, -, -, -, -, -, -, -, -, -, -, -, -, -, -, q18⟩ := E3
   rw [hvc] at q2
   rw [hvd] at q3
   rw [hvb] at q18
   clear hvc hvd hvb E1 t0 t1 t2 t3 hb3 hone hinf
   go_wp2_with fail
   refine (hg0 _ (Below.refl _ _)).mono ?_
   rintro _ w30 ⟨rfl, hb30⟩
   have hbf := hb5.trans (hb30.mono hb5.size)
   go_wp2_with fail
   exact bodyPost_ret (results_tmp Tryz.results15 _ _ _) rfl ⟨by simp, hbf⟩
open Go.Proofs.YtofcnebekmjdoaaGreatDoor
def given (count : Int) (i : Nat) : Nat := min i count.toNat
open Go.Proofs.YtofcnebekmjdoaaGreatDoor
def dayD (n : Int) : Dd := if 0 < n then dMove 2 0 n else dMove 5 0 (-(max n (-1000000)))
theorem Got.more {b : Bank} {K M K2 M2 : Nat} {T c s has : Int} {a : Au.Au} (G : Got b K M T c s has a) (hK : K ≤ K2) (hM : M ≤ M2) : Got b K2 M2 T c s has a :=
 ⟨G.inv, G.bound.mono hK, G.down, G.time, G.auths, G.cards, G.due, G.cb, G.ob, G.db, G.out, G.way, fun i => Nat.le_trans (G.kept i) hM, fun i => by have := G.sent i; omega, Nat.le_trans G.today hK, G.card, G.shop, G.c01, G.s01⟩
theorem move_no {b : Bank} {mv n : Int} (hd : b.down = false) (ha : b.auths.length = 1) (he : Au.mvErr (b.auth 0) mv n ≠ 0) : (doB b (dMove mv 0 n)).1 = b := by
 refine doB_refused b _ ?_
 show (moveD b (dMove mv 0 n)).2 ≠ 0
 unfold moveD
 rw [if_neg (by rw [hd]; simp), if_neg (by show ¬ ((0 : Int) < 0 ∨ _ ≤ (0 : Int)); rw [ha]; omega), if_pos (show Au.mvErr (b.auth (dMove mv 0 n).n) (dMove mv 0 n).mv (dMove mv 0 n).sum ≠ 0 from he)]
 exact he
structure Dt (b : Bank) (K M : Nat) (has : Int) (a : Au.Au) : Prop where
 got : Got b K M 0 0 1 has a
 one : Dy.net 1 b.today = a.cap - a.ref
 zero : Dy.net 0 b.today = 0
 days : b.days = []
theorem Dt.step {b : Bank} {K M : Nat} {has : Int} {a : Au.Au} (D : Dt b K M has a) (hM : M ≤ 20) (hK : K ≤ 90) {mv : Int} (n : Int) (hmv : mv = 2 ∨ mv = 5) : ∃ a', Dt (doB b (dMove mv 0 n)).1 (K + 1) (M + 1) has a' := by
 have hau : b.auth 0 = a := by unfold Bank.auth; rw [D.got.auths]; rfl
 by_cases he : Au.mvErr a mv n = 0
 ·obtain ⟨e, G⟩ := D.got.step hM hK he (by omega)
  have ht : (doB b (dMove mv 0 n)).1.today = b.today ++ [⟨1, 0, mv, n⟩] := by
   rw [e]
   show b.today ++ [⟨(b.auth 0).shop, 0, mv, n⟩] = _
   rw [hau, D.got.shop]
  refine ⟨Au.step a mv n, G.more (Nat.le_refl _) (by unfold sends; split <;> omega), ?_, ?_, by rw [e]; exact D.days⟩
  ·have h1 := D.one
   unfold Dy.net at h1 ⊢
   rw [ht, Dy.sumBy_append, h1]
   rcases hmv with rfl | rfl
   ·simp [Dy.sumBy, Dy.netF, Dy.sgn, Au.step]; omega
   ·simp [Dy.sumBy, Dy.netF, Dy.sgn, Au.step]; omega
  ·have h1 := D.zero
   unfold Dy.net at h1 ⊢
   rw [ht, Dy.sumBy_append, h1]
   simp [Dy.sumBy, Dy.netF]
 ·rw [move_no D.got.down (by rw [D.got.auths]; rfl) (by rw [hau]; exact he)]
  exact ⟨a, D.got.more (by omega) (by omega), D.one, D.zero, D.days⟩
theorem Dt.all {has : Int} (l : List Int) : ∀ {b : Bank} {K M : Nat} {a : Au.Au}, Dt b K M has a → K + l.length ≤ 90 → M + l.length ≤ 20 → ∃ a', Dt (run b (l.map dayD)) (K + l.length) (M + l.length) has a' := by
 induction l with
 | nil => intro b K M a D _ _; exact ⟨a, D⟩
 | cons n r ih =>
  intro b K M a D h1 h2
  rw [List.length_cons] at h1 h2
  have h3 : ∃ a', Dt (doB b (dayD n)).1 (K + 1) (M + 1) has a' := by
   unfold dayD
   split
   ·exact D.step (by omega) (by omega) _ (Or.inl rfl)
   ·exact D.step (by omega) (by omega) _ (Or.inr rfl)
  obtain ⟨a', D'⟩ := h3
  obtain ⟨a2, D2⟩ := ih D' (by omega) (by omega)
  refine ⟨a2, ?_⟩
  rw [List.map_cons, run_cons, List.length_cons, show K + (r.length + 1) = K + 1 + r.length by omega, show M + (r.length + 1) = M + 1 + r.length by omega]
  exact D2
open Go.Proofs.YtofcnebekmjdoaaGreatDoor
theorem log_len (b : Bank) (l : List Dd) : (playL b l).2.length = l.length := by
 have := congrArg List.length (playL_log b l)
 rwa [List.length_map] at this
theorem told_at (b : Bank) (l : List Dd) {i : Nat} (hi : i < l.length) (h0 : (l.getD i zD).id ≠ 0) : told (l.getD i zD).id (playL b l).2 = some (((playL b l).2.map (·.2)).getD i (0, 0)) := by
 have hi' : i < (playL b l).2.length := by rw [log_len]; exact hi
 have h1 : ((playL b l).2[i]).1 = l.getD i zD := by
  have : ((playL b l).2.map (·.1))[i]? = l[i]? := by rw [playL_log]
  rw [List.getElem?_map, List.getElem?_eq_getElem hi', List.getElem?_eq_getElem hi] at this
  simpa [List.getD, hi] using this
 have := first_playL b l ((playL b l).2[i]) (List.getElem_mem hi') (by rw [h1]; exact h0)
 rw [h1] at this
 rw [this]
 simp [List.getD, hi']
structure Sd (m all : List Dd) : Prop where
 ids : ∀ j, j < m.length → (m.getD j zD).id = (j : Int) + 1
 like : ∀ b, Alike (playL b m) (playL b all)
 mem : ∀ i, i < all.length → ∃ j, j < m.length ∧ all.getD i zD = m.getD j zD
theorem getD_snoc {l : List Dd} {d : Dd} {i : Nat} : (l ++ [d]).getD i zD = if i < l.length then l.getD i zD else if i = l.length then d else zD := by
 by_cases h : i < l.length
 ·rw [if_pos h, List.getD_eq_getElem?_getD, List.getElem?_append_left h, List.getD_eq_getElem?_getD]
 ·rw [if_neg h]
  by_cases h2 : i = l.length
  ·rw [if_pos h2, h2]; simp [List.getD]
  ·rw [if_neg h2]
   have : (l ++ [d])[i]? = none := by rw [List.getElem?_eq_none_iff]; simp; omega
   simp [List.getD, this]
theorem Sd.again {m all : List Dd} (S : Sd m all) {k : Nat} (hk : k < m.length) : Sd m (all ++ [m.getD k zD]) := by
 have h0 : (m.getD k zD).id ≠ 0 := by rw [S.ids k hk]; omega
 refine ⟨S.ids, fun b => ?_, fun i hi => ?_⟩
 ·rw [playL_snoc]
  refine (S.like b).again h0 (a := ((playL b m).2.map (·.2)).getD k (0, 0)) ?_
  rw [← (S.like b).told _ h0]
  exact told_at b m hk h0
 ·rw [List.length_append, List.length_singleton] at hi
  rw [getD_snoc]
  split
  ·rename_i h; exact S.mem i h
  ·rw [if_pos (by omega)]; exact ⟨k, hk, rfl⟩
theorem Sd.tell {m all : List Dd} (S : Sd m all) (b : Bank) {i : Nat} (hi : i < all.length) : ∃ j, j < m.length ∧ (all.getD i zD).id = (j : Int) + 1 ∧ ((playL b all).2.map (·.2)).getD i (0, 0) = ((playL b m).2.map (·.2)).getD j (0, 0) := by
 obtain ⟨j, h1, h2⟩ := S.mem i hi
 have h0 : (m.getD j zD).id ≠ 0 := by rw [S.ids j h1]; omega
 refine ⟨j, h1, by rw [h2]; exact S.ids j h1, ?_⟩
 have e1 := told_at b all hi (by rw [h2]; exact h0)
 have e2 := told_at b m h1 h0
 rw [h2, ← (S.like b).told _ h0, e2] at e1
 exact (Option.some.inj e1).symm
end Go.Proofs.YtofcnebekmjdoaaGreatDoor.Bn
