import Derived.Test.YtofcnebekmjdoaaGreatDoorLHeldad
set_option maxHeartbeats 4000000
set_option maxRecDepth 100000
namespace Go.Proofs.YtofcnebekmjdoaaGreatDoor.Bn
open Go.Proofs.YtofcnebekmjdoaaGreatDoor
def dayD (n : Int) : Dd := if 0 < n then dMove 2 0 n else dMove 5 0 (-(max n (-1000000)))
theorem Got.more {b : Bank} {K M K2 M2 : Nat} {T c s has : Int} {a : Au.Au} (G : Got b K M T c s has a) (hK : K ≤ K2) (hM : M ≤ M2) : Got b K2 M2 T c s has a :=
 ⟨G.inv, G.bound.mono hK, G.down, G.time, G.auths, G.cards, G.due, G.cb, G.ob, G.db, G.out, G.way, fun i => Nat.le_trans (G.kept i) hM, fun i => by have := G.sent i; omega, Nat.le_trans G.today hK, G.card, G.shop, G.c01, G.s01⟩
theorem move_no {b : Bank} {mv n : Int} (hd : b.down = false) (ha : b.auths.length = 1) (he : Au.mvErr (b.auth 0) mv n ≠ 0) : (doB b (dMove mv 0 n)).1 = b := by
 refine doB_refused b _ ?_
 show (moveD b (dMove mv 0 n)).2 ≠ 0
 unfold moveD
 rw [if_neg (by rw [hd]; simp), if_neg (by show ¬ ((0 : Int) < 0 ∨ _ ≤ (0 : Int)); rw [ha]; omega), if_pos (show Au.mvErr (b.auth (dMove mv 0 n).n) (dMove mv 0 n).mv (dMove mv 0 n).sum ≠ 0 from he)]
 exact he
structure Dt (b : Bank) (K M : Nat) (has : Int) (a : Au.Au) : Prop where
 got : Got b K M 0 0 1 has a
 one : Dy.net 1 b.today = a.cap - a.ref
 zero : Dy.net 0 b.today = 0
 days : b.days = []
theorem Dt.step {b : Bank} {K M : Nat} {has : Int} {a : Au.Au} (D : Dt b K M has a) (hM : M ≤ 20) (hK : K ≤ 90) {mv : Int} (n : Int) (hmv : mv = 2 ∨ mv = 5) : ∃ a', Dt (doB b (dMove mv 0 n)).1 (K + 1) (M + 1) has a' := by
 have hau : b.auth 0 = a := by unfold Bank.auth; rw [D.got.auths]; rfl
 by_cases he : Au.mvErr a mv n = 0
 ·obtain ⟨e, G⟩ := D.got.step hM hK he (by omega)
  have ht : (doB b (dMove mv 0 n)).1.today = b.today ++ [⟨1, 0, mv, n⟩] := by
   rw [e]
   show b.today ++ [⟨(b.auth 0).shop, 0, mv, n⟩] = _
   rw [hau, D.got.shop]
  refine ⟨Au.step a mv n, G.more (Nat.le_refl _) (by unfold sends; split <;> omega), ?_, ?_, by rw [e]; exact D.days⟩
  ·have h1 := D.one
   unfold Dy.net at h1 ⊢
   rw [ht, Dy.sumBy_append, h1]
   rcases hmv with rfl | rfl
   ·simp [Dy.sumBy, Dy.netF, Dy.sgn, Au.step]; omega
   ·simp [Dy.sumBy, Dy.netF, Dy.sgn, Au.step]; omega
  ·have h1 := D.zero
   unfold Dy.net at h1 ⊢
   rw [ht, Dy.sumBy_append, h1]
   simp [Dy.sumBy, Dy.netF]
 ·rw [move_no D.got.down (by rw [D.got.auths]; rfl) (by rw [hau]; exact he)]
  exact ⟨a, D.got.more (by omega) (by omega), D.one, D.zero, D.days⟩
theorem Dt.all {has : Int} (l : List Int) : ∀ {b : Bank} {K M : Nat} {a : Au.Au}, Dt b K M has a → K + l.length ≤ 90 → M + l.length ≤ 20 → ∃ a', Dt (run b (l.map dayD)) (K + l.length) (M + l.length) has a' := by
 induction l with
 | nil => intro b K M a D _ _; exact ⟨a, D⟩
 | cons n r ih =>
  intro b K M a D h1 h2
  rw [List.length_cons] at h1 h2
  have h3 : ∃ a', Dt (doB b (dayD n)).1 (K + 1) (M + 1) has a' := by
   unfold dayD
   split
   ·exact D.step (by omega) (by omega) _ (Or.inl rfl)
   ·exact D.step (by omega) (by omega) _ (Or.inr rfl)
  obtain ⟨a', D'⟩ := h3
  obtain ⟨a2, D2⟩ := ih D' (by omega) (by omega)
  refine ⟨a2, ?_⟩
  rw [List.map_cons, run_cons, List.length_cons, show K + (r.length + 1) = K + 1 + r.length by omega, show M + (r.length + 1) = M + 1 + r.length by omega]
  exact D2
open Go.RowKit Go.Proofs.YtofcnebekmjdoaaGreatDoor.Gn Go.Maps
theorem playR_ok {ps : List Pa} {shops cap : Int} {l : List Dd} (h : (playR ps shops cap l).2.2.1 = 0) : (setErr ps shops cap).1 = 0 ∧ l.length ≤ 150 ∧ playR ps shops cap l = ((playL (startB ps shops.toNat cap) l).1, (playL (startB ps shops.toNat cap) l).2.map (·.2), (0, 0)) := by
 unfold playR at h ⊢
 by_cases h1 : (setErr ps shops cap).1 ≠ 0
 ·rw [if_pos h1] at h; exact absurd h h1
 rw [if_neg h1] at h ⊢
 by_cases h2 : 150 < l.length
 ·rw [if_pos h2] at h; cases h
 rw [if_neg h2]
 exact ⟨by simpa using h1, by omega, rfl⟩
theorem playR_inv {ps : List Pa} {shops cap : Int} {l : List Dd} (h : (playR ps shops cap l).2.2.1 = 0) : Inv (startB ps shops.toNat cap) ∧ Inv (playR ps shops cap l).1 := by
 obtain ⟨h1, -, h3⟩ := playR_ok h
 obtain ⟨o1, o2, o3, o4, o5, o6⟩ := set_ok h1
 have I := start_inv (paces := ps) (shops := shops.toNat) (cap := cap) o1 (by omega) ⟨o4, o5⟩ o6
 rw [h3]
 exact ⟨I, play_inv I l⟩
open Go.RowKit Go.Proofs.YtofcnebekmjdoaaGreatDoor.Gn Go.Maps
structure Bw (w Y : World) (g : Nat) (b : Bank) (v : Vs) (cs : List CV) (ds : List DV) : Prop where
 box : Y.heap[g]? = some (bko b v)
 sh : Shows Y b v cs ds
 bel : Below w.heap.size w Y
theorem Bw.below {w Y Y' : World} {g : Nat} {b : Bank} {v : Vs} {cs : List CV} {ds : List DV} (h : Bw w Y g b v cs ds) (hb : Below Y.heap.size Y Y') : Bw w Y' g b v cs ds :=
 ⟨(hb.block _ (lt_of_block h.box)).trans h.box, h.sh.below hb, h.bel.trans (hb.mono h.bel.size)⟩
theorem faultErr (x y : Int) (w : World) : (Instr.field 47 (.agg #[.int .i64 x, .int .i64 y]) 0).run Tryz.prog w = .ok (.int .i64 x) w := by kernel_rfl
theorem take_au {l : List Au.Au} {i : Nat} (hi : i < l.length) : l.take (i + 1) = l.take i ++ [l.getD i zA] := by
 rw [List.take_add_one]; simp [List.getD, hi]
theorem auth_cells {w : World} {a : Option Addr} {cap : Nat} {L : List Au.Au} (h : Gn.Lies kAu w a cap L) {i : Nat} (hi : i < L.length) :
  ∃ z o, a = some ⟨z, o, none⟩ ∧ z < w.heap.size ∧ w.cell? ⟨z, o + i * 8, none⟩ = some (.int .i64 (L.getD i zA).card) ∧ w.cell? ⟨z, o + i * 8 + 1, none⟩ = some (.int .i64 (L.getD i zA).shop) ∧ w.cell? ⟨z, o + i * 8 + 2, none⟩ = some (.int .i64 (L.getD i zA).sum) ∧ w.cell? ⟨z, o + i * 8 + 3, none⟩ = some (.int .i64 (L.getD i zA).cap) ∧
   w.cell? ⟨z, o + i * 8 + 4, none⟩ = some (.int .i64 (L.getD i zA).ref) ∧ w.cell? ⟨z, o + i * 8 + 5, none⟩ = some (.int .i64 (L.getD i zA).dis) ∧ w.cell? ⟨z, o + i * 8 + 6, none⟩ = some (.int .i64 (L.getD i zA).till) ∧ w.cell? ⟨z, o + i * 8 + 7, none⟩ = some (.bool (L.getD i zA).shut) := by
 obtain ⟨z, o, ha, hb, hc⟩ := h.elem (i := i) (x := L.getD i zA) (by simp [List.getD, hi])
 exact ⟨z, o, ha, hb, hc 0 _ rfl, hc 1 _ rfl, hc 2 _ rfl, hc 3 _ rfl, hc 4 _ rfl, hc 5 _ rfl, hc 6 _ rfl, hc 7 _ rfl⟩
theorem card_cells {w : World} {a : Option Addr} {cap : Nat} {L : List CV} (h : Gn.Lies kC w a cap L) {i : Nat} (hi : i < L.length) :
  ∃ z o, a = some ⟨z, o, none⟩ ∧ z < w.heap.size ∧ w.cell? ⟨z, o + i * 6, none⟩ = some (.int .i64 (L.getD i zCV).c.m) ∧ w.cell? ⟨z, o + i * 6 + 1, none⟩ = some (.int .i64 (L.getD i zCV).c.h) ∧ w.cell? ⟨z, o + i * 6 + 2, none⟩ = some (.int .i64 (L.getD i zCV).c.p.t) ∧ w.cell? ⟨z, o + i * 6 + 3, none⟩ = some (.int .i64 (L.getD i zCV).c.p.c) ∧
   w.cell? ⟨z, o + i * 6 + 4, none⟩ = some (.int .i64 (L.getD i zCV).c.p.s) ∧ w.cell? ⟨z, o + i * 6 + 5, none⟩ = some (.slice (L.getD i zCV).a (L.getD i zCV).c.u.length (L.getD i zCV).cap) := by
 obtain ⟨z, o, ha, hb, hc⟩ := h.elem (i := i) (x := L.getD i zCV) (by simp [List.getD, hi])
 exact ⟨z, o, ha, hb, hc 0 _ rfl, hc 1 _ rfl, hc 2 _ rfl, hc 3 _ rfl, hc 4 _ rfl, hc 5 _ rfl⟩
theorem ap_sl {α : Type} {K : Kind α} {lab : Lab} {w : World} {a : Option Addr} {cap : Nat} {L : List α} {i : Nat} (h : Ap K lab w (.slice a L.length cap) L i) : Gn.Lies K w a cap L := by
 obtain ⟨a', cap', hv, hl, -⟩ := h
 injection hv with h1 _ h2
 rw [h1, h2]
 exact hl
theorem pero_cells {w : World} {z : Nat} {x1 x2 x3 x4 x5 x6 x7 : Int} {x8 : Bool} (h : w.heap[z]? = some (.cells #[.int .i64 x1, .int .i64 x2, .int .i64 x3, .int .i64 x4, .int .i64 x5, .int .i64 x6, .int .i64 x7, .bool x8] 66)) :
  w.cell? ⟨z, 0, none⟩ = some (.int .i64 x1) ∧ w.cell? ⟨z, 1, none⟩ = some (.int .i64 x2) ∧ w.cell? ⟨z, 2, none⟩ = some (.int .i64 x3) ∧ w.cell? ⟨z, 3, none⟩ = some (.int .i64 x4) ∧ w.cell? ⟨z, 4, none⟩ = some (.int .i64 x5) ∧ w.cell? ⟨z, 5, none⟩ = some (.int .i64 x6) ∧ w.cell? ⟨z, 6, none⟩ = some (.int .i64 x7) ∧ w.cell? ⟨z, 7, none⟩ = some (.bool x8) := by
 refine ⟨?_, ?_, ?_, ?_, ?_, ?_, ?_, ?_⟩ <;> simp [World.cell?, h]
theorem card_box {w : World} {z : Nat} {x1 x2 x3 x4 x5 : Int} {x6 : Value} (h : w.heap[z]? = some (.cells #[.int .i64 x1, .int .i64 x2, .int .i64 x3, .int .i64 x4, .int .i64 x5, x6] 61)) :
  w.cell? ⟨z, 0, none⟩ = some (.int .i64 x1) ∧ w.cell? ⟨z, 1, none⟩ = some (.int .i64 x2) ∧ w.cell? ⟨z, 2, none⟩ = some (.int .i64 x3) ∧ w.cell? ⟨z, 3, none⟩ = some (.int .i64 x4) ∧ w.cell? ⟨z, 4, none⟩ = some (.int .i64 x5) ∧ w.cell? ⟨z, 5, none⟩ = some x6 := by
 refine ⟨?_, ?_, ?_, ?_, ?_, ?_⟩ <;> simp [World.cell?, h]
open Go.RowKit Go.Proofs.YtofcnebekmjdoaaGreatDoor.Gn Go.Maps
theorem held_take {l : List Au.Au} {i : Nat} (hi : i < l.length) (j : Nat) : heldOf j (l.take (i + 1)) = heldOf j (l.take i) + heldBy j (l.getD i zA) := by
 unfold heldOf
 rw [take_au hi, sumOn_append, sumOn_one]
theorem held_small {l : List Au.Au} (h : ∀ a ∈ l, Au.Rng a ∧ Au.Fit a) (j : Nat) : ∀ i, i ≤ l.length → 0 ≤ heldOf j (l.take i) ∧ heldOf j (l.take i) ≤ 1000000 * (i : Int) := by
 intro i
 induction i with
 | zero => intro _; show (0 : Int) ≤ 0 ∧ (0 : Int) ≤ _; omega
 | succ i ih =>
  intro hi
  have h1 := ih (by omega)
  rw [held_take (by omega)]
  have hm : l.getD i zA ∈ l := getD_mem' zA (by omega)
  have h2 := hold_small (h _ hm).1 (h _ hm).2
  unfold heldBy
  split <;> omega
structure Hd (b : Bank) (n k : Nat) (H : List Int) : Prop where
 len : H.length = n
 at' : ∀ j, j < n → H.getD j 0 = heldOf j (b.auths.take k)
theorem hd_start (b : Bank) (n : Nat) : Hd b n 0 (List.replicate n 0) := ⟨by simp, fun j hj => by simp [List.getD, hj, heldOf, sumOn]⟩
theorem Hd.next {b : Bank} {n k : Nat} {H : List Int} (h : Hd b n k H) (hk : k < b.auths.length) {c : Nat} (hc : c < n) (hq : (b.auths.getD k zA).card = c) : Hd b n (k + 1) (H.set c (H.getD c 0 + Au.holdA (b.auths.getD k zA))) := by
 refine ⟨by simp [h.len], fun j hj => ?_⟩
 rw [held_take hk]
 unfold heldBy
 by_cases e : j = c
 ·subst e
  rw [if_pos hq, ← h.at' j hj]
  have : j < H.length := by rw [h.len]; exact hj
  simp [List.getD, this]
 ·rw [if_neg (by rw [hq]; omega), ← h.at' j hj, Int.add_zero]
  simp [List.getD, Ne.symm e]
theorem bankHeld_any (ps : List Pa) (a : Option Addr) (c : Nat) (shops cap : Int) (al : Option Addr) (cl : Nat) (l : List Dd) (w : World) (hl : Gn.Lies kPa w a c ps) (hd : Gn.Lies kDd w al cl l) (hfit : ∀ d ∈ l, FitD d) (O : Oth w) :
  Calls Tryz.prog 5 #[suv (.slice a ps.length c) shops cap, .slice al l.length cl] w fun e w' => e = .returned (.bool true) ∧ Below w.heap.size w w' := by
 have hmx := hd.len
 unfold maxLen at hmx
 have e1 := below_alloc w (suo (.slice a ps.length c) shops cap)
 have hs0 : (w.alloc (suo (.slice a ps.length c) shops cap)).heap[w.heap.size]? = some (suo (.slice a ps.length c) shops cap) := heap_alloc_at _ _ _ rfl
 have hA := alive_any (w.alloc (suo (.slice a ps.length c) shops cap)) (O.keep (e1.block 0 O.lt))
 have hP := fun (W : World) (h : Below w.heap.size w W) => play_any ps a c shops cap al cl l W (hl.below h) (hd.below h) hfit (O.keep (h.block 0 O.lt))
 unfold suv Plays at hP
 simp only [bkv_cells] at hP
 unfold Dy.fv at hP
 have hL := fun (h : (playR ps shops cap l).2.2.1 = 0) => (playR_inv h).2
 generalize playR ps shops cap l = r at *
 obtain ⟨b, A, f⟩ := r
 dsimp only at hP hL
 clear hl hfit O hd
 unfold suo at hs0 e1 hA
 have zw := lt_of_block hs0
 unfold suv
 go_enter Tryz.func5, Tryz.ntmps5
 go_upto_region 1 with fail
 generalize w.alloc (.cells #[.slice a ps.length c, .int .i64 shops, .int .i64 cap] 24) = W at *
 go_upto_region 2 with fail
 refine hA.mono ?_
 rintro _ w1 ⟨rfl, hb1⟩
 clear hA
 have hbw : Below w.heap.size w w1 := e1.trans (hb1.mono e1.size)
 have hs1 : w1.heap[w.heap.size]? = some (suo (.slice a ps.length c) shops cap) := (hb1.block _ zw).trans hs0
 obtain ⟨s0, s1, s2⟩ := sul_cells hs1
 have hP1 := hP w1 hbw
 clear e1 hb1 hs0 zw hP hs1
 go_upto_region 4 with (first
  | (go_at_call 18; refine hP1.mono ?_; rintro _ w2 ⟨v, cs, ds, va, rfl, SH, AP, hb3⟩; obtain ⟨G1, G2, G3, G4, G5⟩ := got_box w2 #[.int .i64 0, .bool false, .slice none 0 0, .slice none 0 0, .slice none 0 0, .int .i64 0, .slice none 0 0, .int .i64 0, .slice none 0 0, .int .i64 0, .int .i64 0, .slice none 0 0, .slice none 0 0, .int .i64 0, .slice none 0 0, .slice none 0 0, .slice none 0 0, .slice none 0 0, .slice none 0 0] rfl b v f; have BW : Bw w _ w2.heap.size b v cs ds := ⟨G3, SH.below G5, (hbw.trans (hb3.mono hbw.size)).trans (G5.mono ((hbw.trans (hb3.mono hbw.size)).size))⟩; replace G3 := bko_cells G3; obtain ⟨t0, t1, t2, t3⟩ := fo_cells G2; obtain ⟨y0, y1, y2, y3⟩ := fo_cells G4; have hone := hid SH.one; have hinf : Hid ((Tryz.prog.info? 43).map (·.size) = some (cellsK b v).size) := hid infoK; have hb4 : Below w.heap.size w _ := (hbw.trans (hb3.mono hbw.size)).trans (G5.mono ((hbw.trans (hb3.mono hbw.size)).size)); dsimp only at t0 t1 y0 y1 G3 hb4; clear G4 G5 SH AP G2 hP1 s0 s1 s2 hbw; generalize cellsK b v = cc at *)
  | (refine wpList_store_mid rfl 43 _ _ rfl w2.heap.size 0 cc rfl rfl G1 hinf.out hone.out ?_))
 generalize ((((w2.alloc (.cells #[.int .i64 0, .bool false, .slice none 0 0, .slice none 0 0, .slice none 0 0, .int .i64 0, .slice none 0 0, .int .i64 0, .slice none 0 0, .int .i64 0, .int .i64 0, .slice none 0 0, .slice none 0 0, .int .i64 0, .slice none 0 0, .slice none 0 0, .slice none 0 0, .slice none 0 0, .slice none 0 0] 43)).alloc (.cells #[.int .i64 0, .int .i64 0] 47)).setCells w2.heap.size 0 cc.toList).setCell ⟨w2.heap.size + 1, 0, none⟩ (.int .i64 f.1)).setCell ⟨w2.heap.size + 1, 1, none⟩ (.int .i64 f.2) = Z at *
 clear G1 t0 t1 t2 t3 hb3 hone hinf y1 y2 y3 G3 hb4
 by_cases hf : f.1 = 0
 case neg =>
  have hbf := BW.bel
  clear hL BW
  go_wp2_with fail
  exact bodyPost_ret (results_tmp Tryz.results5 _ _ _) rfl ⟨rfl, hbf⟩
 case pos =>
  have I := hid (hL hf)
  rw [hf] at y0
  have hcl : Hid (cs.length = b.cards.length) := hid (by rw [← BW.sh.csv, List.length_map])
  have hc8 : cs.length ≤ 8 := by rw [hcl.out]; exact I.out.held.cards8
  have ha30 : b.auths.length ≤ 30 := by have := I.out.held.few; omega
  have hau := fun (k : Nat) (hk : k < b.auths.length) => I.out.held.auths _ (getD_mem' zA hk)
  have hhs := fun (j : Nat) => held_small (fun x hx => ⟨(I.out.held.auths x hx).1, (I.out.held.auths x hx).2.1⟩) j
  obtain ⟨a2, c2, e2, -⟩ := BW.sh.cards.lies
  obtain ⟨a3, c3, e3, -⟩ := BW.sh.due.lies
  obtain ⟨a4, c4, e4, -⟩ := BW.sh.auths.lies
  obtain ⟨-, -, B2, -, B4, -⟩ := bko_cells BW.box
  rw [e2] at B2
  rw [e4] at B4
  replace e2 := hid e2
  replace e3 := hid e3
  replace e4 := hid e4
  have hmk := St.make_ints cs.length (by omega)
  have hI0 := ints_made Z 3 cs.length
  have hZ0 := below_alloc Z (.cells (madeCells #[.int .i64 0] cs.length) 3)
  have hcell := hid (fun (X : World) (h : Below Z.heap.size Z X) => bko_cells (BW.below h).box)
  have B4' : (Z.alloc (.cells (madeCells #[.int .i64 0] cs.length) 3)).cell? ⟨w2.heap.size, 4, none⟩ = some (.slice a4 b.auths.length c4) := (hZ0.cell (cell_lt B4)).trans B4
  clear hL hf
  go_upto_region 8 with fail
  generalize Z.alloc (.cells (madeCells #[.int .i64 0] cs.length) 3) = Z1 at *
  clear B2 B4 B4' y0 hmk
  go_loopw [32] (fun i wr => ∃ (k : Nat) (H : List Int), k ≤ b.auths.length ∧ i = .int .i64 k ∧ Below Z.heap.size Z wr ∧ Ints wr 3 Z.heap.size H ∧ Hid (Hd b cs.length k H)) (fun i _ => b.auths.length - (intOf i).toNat)
  case atStart => exact ⟨0, _, Nat.zero_le _, rfl, hZ0, hI0, hid (hd_start b cs.length)⟩
  case round =>
   clear hI0 hZ0
   obtain ⟨k, H, hk, rfl, hbr, hI, hH⟩ := hrel
   have BR := BW.below hbr
   by_cases hlt : k < b.auths.length
   ·have hlt' : (k : Int) < b.auths.length := by omega
    obtain ⟨a5, c5, e5, l5⟩ := BR.sh.auths.lies
    rw [e4.out] at e5
    injection e5 with q1 _ q2
    subst q1 q2
    obtain ⟨z, off, rfl, zlt, f0, f1, f2, f3, f4, f5, f6, f7⟩ := auth_cells l5 hlt
    obtain ⟨r1, r2, r3, r4⟩ := hau k hlt
    have hwr : Au.wrongA (b.auths.getD k zA) = 0 := Au.wrongA_ok.2 ⟨r1, r2⟩
    have hc0 : 0 ≤ (b.auths.getD k zA).card := by have := r1; unfold Au.Rng at this; omega
    obtain ⟨cn, hcn⟩ : ∃ cn : Nat, (b.auths.getD k zA).card = cn := ⟨(b.auths.getD k zA).card.toNat, by omega⟩
    have hcn' : cn < cs.length := by rw [hcl.out]; omega
    have hN := hid (hH.out.next hlt hcn' hcn)
    have hho := hold_small r1 r2
    have hHc := hH.out.at' cn hcn'
    have hsm := hhs cn k hk
    have hlen := hH.out.len
    have hWr := fun (X : World) => Au.wrong_any (b.auths.getD k zA) X
    have hHo := fun (X : World) => Au.hold_any (b.auths.getD k zA) X hwr
    rw [hwr] at hWr
    have hx1 := hI.cell (i := cn) (by rw [hlen]; exact hcn')
    have hx2 := hI.free cn
    have hxlt := hI.lt
    have hxlt0 := hI.lt
    rw [← hHc] at hsm
    generalize H.getD cn 0 = hv at *
    generalize hga : b.auths.getD k zA = x at *
    obtain ⟨x1, x2, x3, x4, x5, x6, x7, x8⟩ := x
    dsimp only at hcn hc0 r3 r4 f0 f1 f2 f3 f4 f5 f6 f7
    subst hcn
    unfold Au.av at hWr hHo
    dsimp only at hWr hHo
    generalize Au.holdA ⟨(cn : Int), x2, x3, x4, x5, x6, x7, x8⟩ = ho at *
    have hb5 := below_alloc wr (.cells #[.int .i64 (cn : Int), .int .i64 x2, .int .i64 x3, .int .i64 x4, .int .i64 x5, .int .i64 x6, .int .i64 x7, .bool x8] 66)
    have hP5 : (wr.alloc (.cells #[.int .i64 (cn : Int), .int .i64 x2, .int .i64 x3, .int .i64 x4, .int .i64 x5, .int .i64 x6, .int .i64 x7, .bool x8] 66)).heap[wr.heap.size]? = some (.cells #[.int .i64 (cn : Int), .int .i64 x2, .int .i64 x3, .int .i64 x4, .int .i64 x5, .int .i64 x6, .int .i64 x7, .bool x8] 66) := heap_alloc_at _ _ _ rfl
    clear hH hHc hlen hwr r1 r2 hga hc0
    go_upto_region 10 with fail
    have hbn := hbr.trans (hb5.mono hbr.size)
    generalize wr.alloc (.cells #[.int .i64 (cn : Int), .int .i64 x2, .int .i64 x3, .int .i64 x4, .int .i64 x5, .int .i64 x6, .int .i64 x7, .bool x8] 66) = Y at *
    obtain ⟨p0, p1, p2, p3, p4, p5, p6, p7⟩ := pero_cells hP5
    clear f0 f1 f2 f3 f4 f5 f6 f7 l5 BR
    go_upto_region 11 with fail
    refine (hWr _).mono ?_
    rintro _ Y2 ⟨rfl, hb6⟩
    have hP6 := (hb6.block _ (lt_of_block hP5)).trans hP5
    have hbm := hbn.trans (hb6.mono hbn.size)
    obtain ⟨p0', p1', p2', p3', p4', p5', p6', p7'⟩ := pero_cells hP6
    obtain ⟨-, -, B2, B3, -⟩ := hcell.out Y2 hbm
    rw [e2.out] at B2
    rw [e3.out] at B3
    have hI6 : Ints Y2 3 Z.heap.size H := (hI.below hb5).below hb6
    have hx1' : Y2.cell? ⟨Z.heap.size, cn, none⟩ = some (.int .i64 hv) := (hb6.cell (Nat.lt_of_lt_of_le hxlt hb5.size)).trans ((hb5.cell hxlt).trans hx1)
    have hx2' := hI6.free cn
    have hlt6 := lt_of_block hP6
    have hxl6 := hI6.lt
    have hr3 : ¬ ((cs.length : Int) ≤ cn) := by omega
    have hr4 : ¬ ((b.due.length : Int) ≤ x2) := by omega
    clear p0 p1 p2 p3 p4 p5 p6 p7 hP5 hb5 hb6 hbn hx1 hx2 hxlt hI hWr
    go_upto_region 12 with fail
    clear B2 B3 hr3 hr4
    have hzne : wr.heap.size ≠ Z.heap.size := by omega
    have hwp : IntKind.i64.wrap (hv + ho) = hv + ho := wrap64' (by omega) (by omega)
    refine wp_region_held_drew (S := (fun X => X.cell? ⟨wr.heap.size, 0, none⟩ = some (.int .i64 (cn : Int)) ∧ X.cell? ⟨wr.heap.size, 1, none⟩ = some (.int .i64 x2) ∧ X.cell? ⟨wr.heap.size, 2, none⟩ = some (.int .i64 x3) ∧ X.cell? ⟨wr.heap.size, 3, none⟩ = some (.int .i64 x4) ∧ X.cell? ⟨wr.heap.size, 4, none⟩ = some (.int .i64 x5) ∧ X.cell? ⟨wr.heap.size, 5, none⟩ = some (.int .i64 x6) ∧ X.cell? ⟨wr.heap.size, 6, none⟩ = some (.int .i64 x7) ∧ X.cell? ⟨wr.heap.size, 7, none⟩ = some (.bool x8))) (by kernel_rfl) (⟨p0', p1', p2', p3', p4', p5', p6', p7'⟩) (fun hS => ?_)
    refine tk 0 (.slice (some ⟨Z.heap.size, 0, none⟩) cs.length cs.length) hS ?_ ?_
    ·intro w' _; go_simp
    refine tk 1 (.pointer (some ⟨wr.heap.size, 0, none⟩)) hS ?_ ?_
    ·intro w' _; go_simp
    refine tk 2 (.int .i64 (cn : Int)) hS ?_ ?_
    ·intro w' hS'; obtain ⟨e0, e1, e2, e3, e4, e5, e6, e7⟩ := hS'; go_simp
    refine tk 3 (.slice (some ⟨Z.heap.size, 0, none⟩) cs.length cs.length) hS ?_ ?_
    ·intro w' _; go_simp
    try simp only [Act.put]
    refine tk 4 (.pointer (some ⟨wr.heap.size, 0, none⟩)) hS ?_ ?_
    ·intro w' _; go_simp
    refine tk 5 (.int .i64 (cn : Int)) hS ?_ ?_
    ·intro w' hS'; obtain ⟨e0, e1, e2, e3, e4, e5, e6, e7⟩ := hS'; go_simp
    refine tk 6 (.pointer (some ⟨Z.heap.size, cn, none⟩)) hS ?_ ?_
    ·intro w' _; go_simp
    refine tk 8 (.agg #[.int .i64 (cn : Int), .int .i64 x2, .int .i64 x3, .int .i64 x4, .int .i64 x5, .int .i64 x6, .int .i64 x7, .bool x8]) hS ?_ ?_
    ·intro w' hS'; obtain ⟨e0, e1, e2, e3, e4, e5, e6, e7⟩ := hS'; go_simp
    try simp only [Act.put]
    try simp only [nrm, Act.put]
    refine wpAnyH_ready (rs := [7, 9]) (by kernel_rfl) (by simp) ?_
    refine AllReadyH.cons rfl (fun K hK => ?_) (AllReadyH.cons rfl (fun K hK => ?_) AllReadyH.nil)
    ·go_simp
     refine hK.out _ _ ⟨p0', p1', p2', p3', p4', p5', p6', p7'⟩ (fun hS => ?_)
     clear hK K
     try simp only [nrm, Act.put]
     refine rd 9 (.cons rfl (fun K hK => ?_) .nil)
     go_simp
     refine (hHo _).mono ?_
     rintro _ w5 ⟨rfl, hb7⟩
     have hP7 : w5.heap[wr.heap.size]? = _ := (hb7.block _ hlt6).trans hP6
     have hq7 := pero_cells hP7
     have hs7 := fun (u : Value) => pero_cells ((heap_setCell_other w5 ⟨Z.heap.size, cn, none⟩ wr.heap.size u hzne).trans hP7)
     have q1 := (hb7.cell (p := ⟨Z.heap.size, cn, none⟩) hxl6).trans hx1'
     have q2 := (hb7.frozen (p := ⟨Z.heap.size, cn, none⟩) hxl6).trans hx2'
     go_simp
     refine hK.out _ _ (hq7) (fun hS => ?_)
     clear hK K
     refine tk 10 (.int .i64 (hv + ho)) hS ?_ ?_
     ·intro w' _; go_simp
     refine tk 11 (.pointer (some ⟨Z.heap.size, cn, none⟩)) hS ?_ ?_
     ·intro w' _; go_simp
     try simp only [Act.put]
     refine rd 12 (.cons rfl (fun K hK => ?_) .nil)
     go_simp
     refine hK.out _ _ (hs7 _) (fun hS => ?_)
     clear hK K
     try simp only [nrm, Act.put]
     refine wpAnyH_done (by kernel_rfl) ?_ _
     have hI7 : Ints w5 3 Z.heap.size H := hI6.below (((Below.refl _ _).drew).trans hb7)
     have hbz : Below Z.heap.size Z w5 := hbm.trans ((((Below.refl _ _).drew).trans hb7).mono hbm.size)
     go_wp2_with fail
     go_roundw
     case rel => exact ⟨k + 1, _, by omega, by go_num, hbz.setCell (p := ⟨Z.heap.size, cn, none⟩) (Nat.le_refl _) _, hI7.set cn _, hN⟩
     case measure => simp [intOf]; omega
    ·go_simp
     refine (hHo _).mono ?_
     rintro _ w5 ⟨rfl, hb7⟩
     have hP7 : w5.heap[wr.heap.size]? = _ := (hb7.block _ hlt6).trans hP6
     have hq7 := pero_cells hP7
     have hs7 := fun (u : Value) => pero_cells ((heap_setCell_other w5 ⟨Z.heap.size, cn, none⟩ wr.heap.size u hzne).trans hP7)
     have q1 := (hb7.cell (p := ⟨Z.heap.size, cn, none⟩) hxl6).trans hx1'
     have q2 := (hb7.frozen (p := ⟨Z.heap.size, cn, none⟩) hxl6).trans hx2'
     go_simp
     refine hK.out _ _ hq7 (fun hS => ?_)
     clear hK K
     try simp only [nrm, Act.put]
     refine rd 7 (.cons rfl (fun K hK => ?_) .nil)
     go_simp
     refine hK.out _ _ (hq7) (fun hS => ?_)
     clear hK K
     refine tk 10 (.int .i64 (hv + ho)) hS ?_ ?_
     ·intro w' _; go_simp
     refine tk 11 (.pointer (some ⟨Z.heap.size, cn, none⟩)) hS ?_ ?_
     ·intro w' _; go_simp
     try simp only [Act.put]
     refine rd 12 (.cons rfl (fun K hK => ?_) .nil)
     go_simp
     refine hK.out _ _ (hs7 _) (fun hS => ?_)
     clear hK K
     try simp only [nrm, Act.put]
     refine wpAnyH_done (by kernel_rfl) ?_ _
     have hI7 : Ints w5 3 Z.heap.size H := hI6.below (((Below.refl _ _).drew).trans hb7)
     have hbz : Below Z.heap.size Z w5 := hbm.trans ((((Below.refl _ _).drew).trans hb7).mono hbm.size)
     go_wp2_with fail
     go_roundw
     case rel => exact ⟨k + 1, _, by omega, by go_num, hbz.setCell (p := ⟨Z.heap.size, cn, none⟩) (Nat.le_refl _) _, hI7.set cn _, hN⟩
     case measure => simp [intOf]; omega
   ·obtain rfl : k = b.auths.length := by omega
    have hge : ¬ ((b.auths.length : Int) < b.auths.length) := by omega
    obtain ⟨-, -, B2, -⟩ := bko_cells BR.box
    rw [e2.out] at B2
    have hHH : Hid (∀ j, j < cs.length → H.getD j 0 = (cs.getD j zCV).c.h) := hid fun j hj => by
     rw [hH.out.at' j hj, List.take_length, ← I.out.held.held j (by rw [← hcl.out]; exact hj), ← BR.sh.csv]
     simp [List.getD, hj]
    have hHl := hH.out.len
    have hrt : ∀ j, j < cs.length → RightC (cs.getD j zCV).c := fun j hj => I.out.held.right _ (by rw [← BR.sh.csv]; exact List.mem_map_of_mem (getD_mem' zCV hj))
    clear hH hhs hau
    generalize wr = R at *
    go_upto_region 15 with fail
    clear B2
    go_loopw [71] (fun i X => ∃ m : Nat, m ≤ cs.length ∧ i = .int .i64 m ∧ Below R.heap.size R X) (fun i _ => cs.length - (intOf i).toNat)
    case atStart => exact ⟨0, Nat.zero_le _, rfl, Below.refl _ _⟩
    case round =>
     obtain ⟨m, hm, rfl, hbX⟩ := hrel
     generalize wr = X at *
     have BX := BR.below hbX
     by_cases hml : m < cs.length
     ·have hml' : (m : Int) < cs.length := by omega
      obtain ⟨a5, c5, e5, l5⟩ := BX.sh.cards.lies
      rw [e2.out] at e5
      injection e5 with q1 _ q2
      subst q1 q2
      obtain ⟨z, off, rfl, zlt, f0, f1, f2, f3, f4, f5⟩ := card_cells l5 hml
      have hu := lies_uses (ap_sl (BX.sh.uses _ (getD_mem' zCV hml)))
      have hw0 := wrongC_ok.2 (hrt m hml)
      have hWr := fun (Y : World) (hY : Below X.heap.size X Y) => cwrong_any (cs.getD m zCV).c (cs.getD m zCV).a (cs.getD m zCV).cap Y (hu.below hY)
      rw [hw0] at hWr
      have hx0 := (hI.below hbX).cell (i := m) (by rw [hHl]; exact hml)
      rw [hHH.out m hml] at hx0
      have hxlt := (hI.below hbX).lt
      unfold cv at hWr
      generalize (cs.getD m zCV).a = xa at *
      generalize (cs.getD m zCV).cap = xc at *
      clear hu hw0
      generalize (cs.getD m zCV).c = x at *
      have hb5 := below_alloc X (.cells #[.int .i64 x.m, .int .i64 x.h, .int .i64 x.p.t, .int .i64 x.p.c, .int .i64 x.p.s, .slice xa x.u.length xc] 61)
      have hP5 : (X.alloc (.cells #[.int .i64 x.m, .int .i64 x.h, .int .i64 x.p.t, .int .i64 x.p.c, .int .i64 x.p.s, .slice xa x.u.length xc] 61)).heap[X.heap.size]? = some (.cells #[.int .i64 x.m, .int .i64 x.h, .int .i64 x.p.t, .int .i64 x.p.c, .int .i64 x.p.s, .slice xa x.u.length xc] 61) := heap_alloc_at _ _ _ rfl
      go_upto_region 17 with fail
      have hx1 := (hb5.cell hxlt).trans hx0
      have hxl2 := Nat.lt_of_lt_of_le hxlt hb5.size
      generalize X.alloc (.cells #[.int .i64 x.m, .int .i64 x.h, .int .i64 x.p.t, .int .i64 x.p.c, .int .i64 x.p.s, .slice xa x.u.length xc] 61) = Y at *
      obtain ⟨p0, p1, p2, p3, p4, p5⟩ := card_box hP5
      have hplt := lt_of_block hP5
      clear f0 f1 f2 f3 f4 f5 l5
      go_region_held3 (fun V => V.cell? ⟨X.heap.size, 0, none⟩ = some (.int .i64 x.m) ∧ V.cell? ⟨X.heap.size, 1, none⟩ = some (.int .i64 x.h) ∧ V.cell? ⟨X.heap.size, 2, none⟩ = some (.int .i64 x.p.t) ∧ V.cell? ⟨X.heap.size, 3, none⟩ = some (.int .i64 x.p.c) ∧ V.cell? ⟨X.heap.size, 4, none⟩ = some (.int .i64 x.p.s) ∧ V.cell? ⟨X.heap.size, 5, none⟩ = some (.slice xa x.u.length xc) ∧ V.cell? ⟨Z.heap.size, m, none⟩ = some (.int .i64 x.h)) (first | exact ⟨p0, p1, p2, p3, p4, p5, hx1⟩ | exact hq7)
       (first | (go_at_call 28; refine (hWr _ (hb5.trans (((Below.refl _ _).drew).mono hb5.size))).mono ?_; rintro _ w5 ⟨rfl, hb7⟩; have hP7 : w5.heap[X.heap.size]? = _ := (hb7.block _ hplt).trans hP5; obtain ⟨u0, u1, u2, u3, u4, u5⟩ := card_box hP7; have hq7 : _ ∧ _ ∧ _ ∧ _ ∧ _ ∧ _ ∧ _ := ⟨u0, u1, u2, u3, u4, u5, (hb7.cell (p := ⟨Z.heap.size, m, none⟩) hxl2).trans hx1⟩; clear u0 u1 u2 u3 u4 u5))
      all_goals
       have hbz : Below R.heap.size R w5 := hbX.trans ((hb5.trans ((((Below.refl _ _).drew).trans hb7).mono hb5.size)).mono hbX.size)
       go_wp2_with fail
       go_roundw
       case rel => exact ⟨m + 1, by omega, by go_num, hbz⟩
       case measure => simp [intOf]; omega
     ·obtain rfl : m = cs.length := by omega
      have hge : ¬ ((cs.length : Int) < cs.length) := by omega
      have hp0 := I.out.sent.right false
      have hp1 := I.out.sent.right true
      obtain ⟨k1, d1, n1, l1⟩ := (BX.sh.kept false).lies
      have hW1 := Po.wrong_any (b.snd false) k1 d1 X l1
      rw [Po.wrongS_ok.2 hp0] at hW1
      unfold Po.sv at hW1
      obtain ⟨-, -, -, -, -, B5, B6, -⟩ := bko_cells BX.box
      rw [n1] at B6
      have hfe := fun (p q : Int) (V : World) => faultErr p q V
      clear n1 l1
      go_upto_region 20 with fail
      go_wp2_with fail
      refine hW1.mono ?_
      rintro _ Y1 ⟨rfl, hb1⟩
      have BY := BX.below hb1
      clear B5 B6 hW1 BX hb1
      obtain ⟨k2, d2, n2, l2⟩ := (BY.sh.kept true).lies
      have hW2 := Po.wrong_any (b.snd true) k2 d2 Y1 l2
      rw [Po.wrongS_ok.2 hp1] at hW2
      unfold Po.sv at hW2
      obtain ⟨-, -, -, -, -, -, -, B7, B8, -⟩ := bko_cells BY.box
      rw [n2] at B8
      clear n2 l2
      go_wp2_with fail
      refine hW2.mono ?_
      rintro _ Y2 ⟨rfl, hb2⟩
      have BZ := BY.below hb2
      clear B7 B8 hW2 BY hb2
      have hW3 := St.wrong_any b.stand v.us v.ad Y2 BZ.sh.used.lies BZ.sh.adv.lies
      rw [I.out.held.stand.wrong] at hW3
      unfold St.dv at hW3
      obtain ⟨-, -, -, -, -, -, -, -, -, -, -, -, -, B13, B14, B15, -⟩ := bko_cells BZ.box
      go_wp2_with fail
      refine hW3.mono ?_
      rintro _ Y3 ⟨rfl, hb3⟩
      have BV := BZ.below hb3
      clear B13 B14 B15 hW3 BZ hb3
      have hW4 := Dy.wrong_any b.today v.td Y3 BV.sh.today.lies
      rw [Dy.wrong_zero (Dy.wrong_ok.2 I.out.held.today)] at hW4
      unfold Dy.fv at hW4
      obtain ⟨-, -, -, -, -, -, -, -, -, -, -, -, -, -, -, -, B16, -⟩ := bko_cells BV.box
      go_wp2_with fail
      refine hW4.mono ?_
      rintro _ Y4 ⟨rfl, hb4⟩
      have hbf := (BV.below hb4).bel
      clear B16 hW4 BV hb4
      go_wp2_with fail
      exact bodyPost_ret (results_tmp Tryz.results5 _ _ _) rfl ⟨rfl, hbf⟩
end Go.Proofs.YtofcnebekmjdoaaGreatDoor.Bn
