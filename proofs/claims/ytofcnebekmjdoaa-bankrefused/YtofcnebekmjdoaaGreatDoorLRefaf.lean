import Derived.Test.YtofcnebekmjdoaaGreatDoorLRefad
import Derived.Test.YtofcnebekmjdoaaGreatDoorLRefae
set_option maxHeartbeats 4000000
set_option maxRecDepth 100000
namespace Go.Proofs.YtofcnebekmjdoaaGreatDoor.Bn
open Go.Proofs.YtofcnebekmjdoaaGreatDoor
theorem log_len (b : Bank) (l : List Dd) : (playL b l).2.length = l.length := by
 have := congrArg List.length (playL_log b l)
 rwa [List.length_map] at this
theorem told_at (b : Bank) (l : List Dd) {i : Nat} (hi : i < l.length) (h0 : (l.getD i zD).id ≠ 0) : told (l.getD i zD).id (playL b l).2 = some (((playL b l).2.map (·.2)).getD i (0, 0)) := by
 have hi' : i < (playL b l).2.length := by rw [log_len]; exact hi
 have h1 : ((playL b l).2[i]).1 = l.getD i zD := by
  have : ((playL b l).2.map (·.1))[i]? = l[i]? := by rw [playL_log]
  rw [List.getElem?_map, List.getElem?_eq_getElem hi', List.getElem?_eq_getElem hi] at this
  simpa [List.getD, hi] using this
 have := first_playL b l ((playL b l).2[i]) (List.getElem_mem hi') (by rw [h1]; exact h0)
 rw [h1] at this
 rw [this]
 simp [List.getD, hi']
structure Sd (m all : List Dd) : Prop where
 ids : ∀ j, j < m.length → (m.getD j zD).id = (j : Int) + 1
 like : ∀ b, Alike (playL b m) (playL b all)
 mem : ∀ i, i < all.length → ∃ j, j < m.length ∧ all.getD i zD = m.getD j zD
theorem getD_snoc {l : List Dd} {d : Dd} {i : Nat} : (l ++ [d]).getD i zD = if i < l.length then l.getD i zD else if i = l.length then d else zD := by
 by_cases h : i < l.length
 ·rw [if_pos h, List.getD_eq_getElem?_getD, List.getElem?_append_left h, List.getD_eq_getElem?_getD]
 ·rw [if_neg h]
  by_cases h2 : i = l.length
  ·rw [if_pos h2, h2]; simp [List.getD]
  ·rw [if_neg h2]
   have : (l ++ [d])[i]? = none := by rw [List.getElem?_eq_none_iff]; simp; omega
   simp [List.getD, this]
theorem Sd.again {m all : List Dd} (S : Sd m all) {k : Nat} (hk : k < m.length) : Sd m (all ++ [m.getD k zD]) := by
 have h0 : (m.getD k zD).id ≠ 0 := by rw [S.ids k hk]; omega
 refine ⟨S.ids, fun b => ?_, fun i hi => ?_⟩
 ·rw [playL_snoc]
  refine (S.like b).again h0 (a := ((playL b m).2.map (·.2)).getD k (0, 0)) ?_
  rw [← (S.like b).told _ h0]
  exact told_at b m hk h0
 ·rw [List.length_append, List.length_singleton] at hi
  rw [getD_snoc]
  split
  ·rename_i h; exact S.mem i h
  ·rw [if_pos (by omega)]; exact ⟨k, hk, rfl⟩
theorem Sd.tell {m all : List Dd} (S : Sd m all) (b : Bank) {i : Nat} (hi : i < all.length) : ∃ j, j < m.length ∧ (all.getD i zD).id = (j : Int) + 1 ∧ ((playL b all).2.map (·.2)).getD i (0, 0) = ((playL b m).2.map (·.2)).getD j (0, 0) := by
 obtain ⟨j, h1, h2⟩ := S.mem i hi
 have h0 : (m.getD j zD).id ≠ 0 := by rw [S.ids j h1]; omega
 refine ⟨j, h1, by rw [h2]; exact S.ids j h1, ?_⟩
 have e1 := told_at b all hi (by rw [h2]; exact h0)
 have e2 := told_at b m h1 h0
 rw [h2, ← (S.like b).told _ h0, e2] at e1
 exact (Option.some.inj e1).symm
open Go.RowKit Go.Proofs.YtofcnebekmjdoaaGreatDoor.Gn Go.Maps
theorem lies_take {α : Type} {K : Kind α} {w : World} {a : Option Addr} {cap : Nat} {L : List α} (h : Gn.Lies K w a cap L) (n : Nat) : Gn.Lies K w a cap (L.take n) := by
 obtain ⟨h1, h2, h3⟩ := h
 refine ⟨Nat.le_trans (by rw [List.length_take]; omega) h1, h2, ?_⟩
 rcases h3 with rfl | ⟨b, off, ha, hb, hc⟩
 ·exact Or.inl (by simp)
 ·refine Or.inr ⟨b, off, ha, hb, fun j u hj => hc j u ?_⟩
  have e : K.flat L = K.flat (L.take n) ++ K.flat (L.drop n) := by rw [← K.flat_append, List.take_append_drop]
  rw [e, List.getElem?_append_left (List.getElem?_eq_some_iff.1 hj).1]
  exact hj
theorem wpList_load_kept {P : Program} {ops : Array Oper} {rest : List Oper} {op : Oper} {a : Act} {w : World} {Q : Exit → Act → World → Prop} (hgd : Region.wanted op (yielded ops a.tmps) = true) (ty : TypeId) (x : Operand) (ho : op.op = .load ty x)
  (b o : Nat) (hx : a.eval x = .pointer (some ⟨b, o, none⟩)) (cs : List Value) (d : TypeDesc) (hc : w.rangeAt b o cs)
  (hu : P.underlying ty = some d) (hd : d.isRow = true) (hi : (P.info? ty).map (·.size) = some cs.length)
  (h : wpList P ops Q rest (a.put op.dst (.agg cs.toArray)) w) : wpList P ops Q (op :: rest) a w := by
 unfold wpList
 rw [if_pos hgd]
 exact Or.inl (wp_load_mid ty x ho b o hx cs d hc hu hd hi h)
theorem refused_law {ps : List Pa} {shops cap : Int} {l : List Dd} (h : (playR ps shops cap l).2.2.1 = 0) : (playR ps shops cap l).2.1.length = l.length ∧ (playR ps shops cap l).2.2 = (0, 0) ∧
  ∀ n, l.length = n + 1 → ((playR ps shops cap l).2.1.getD n (0, 0)).1 ≠ 0 → ∃ A2, playR ps shops cap (l.take n) = ((playR ps shops cap l).1, A2, (0, 0)) := by
 obtain ⟨h1, h2, h3⟩ := playR_ok h
 rw [h3]
 refine ⟨by rw [List.length_map, log_len], rfl, fun n hn he => ?_⟩
 have e2 : playR ps shops cap (l.take n) = ((playL (startB ps shops.toNat cap) (l.take n)).1, (playL (startB ps shops.toNat cap) (l.take n)).2.map (·.2), (0, 0)) := by
  unfold playR
  rw [if_neg (by simpa using h1), if_neg (by rw [List.length_take]; omega)]
 refine ⟨(playL (startB ps shops.toNat cap) (l.take n)).2.map (·.2), ?_⟩
 rw [e2]
 have hl : l = l.take n ++ [l.getD n zD] := by
  rw [← take_snoc l (by omega), ← hn, List.take_length]
 have hr := play_refused (b := startB ps shops.toNat cap) (l := l.take n) (d := l.getD n zD) (fun x hx => by
  rw [← hl] at hx
  have hx' : (playL (startB ps shops.toNat cap) l).2[n]? = some x := by
   rw [List.getLast?_eq_getElem?, log_len, hn] at hx
   exact hx
  dsimp only at he
  simpa [List.getD, hx'] using he)
 rw [← hl] at hr
 rw [hr]
theorem bankRefused_any (ps : List Pa) (a : Option Addr) (c : Nat) (shops cap : Int) (al : Option Addr) (cl : Nat) (l : List Dd) (w : World) (hl : Gn.Lies kPa w a c ps) (hd : Gn.Lies kDd w al cl l) (hfc : (∀ d ∈ l, FitD d) ∧ l.length ≤ cl) (O : Oth w) :
  Calls Tryz.prog 10 #[suv (.slice a ps.length c) shops cap, .slice al l.length cl] w fun e w' => e = .returned (.bool true) ∧ Below w.heap.size w w' := by
 obtain ⟨hfit, hroom⟩ := hfc
 have hmx := hd.len
 unfold maxLen at hmx
 have e1 := below_alloc w (suo (.slice a ps.length c) shops cap)
 have hs0 : (w.alloc (suo (.slice a ps.length c) shops cap)).heap[w.heap.size]? = some (suo (.slice a ps.length c) shops cap) := heap_alloc_at _ _ _ rfl
 have hA := alive_any (w.alloc (suo (.slice a ps.length c) shops cap)) (O.keep (e1.block 0 O.lt))
 have hP := fun (W : World) (h : Below w.heap.size w W) => play_any ps a c shops cap al cl l W (hl.below h) (hd.below h) hfit (O.keep (h.block 0 O.lt))
 have hQ := fun (n : Nat) (W : World) (h : Below w.heap.size w W) => play_new ps a c shops cap al cl (l.take n) W (hl.below h) (lies_take (hd.below h) n) (fun d hd => hfit d (List.mem_of_mem_take hd)) (O.keep (h.block 0 O.lt))
 have hT : ∀ n, l.length = n + 1 → (l.take n).length = n := fun n hn => by rw [List.length_take]; omega
 unfold suv Plays at hP
 unfold suv PlaysN at hQ
 simp only [bkv_cells] at hP hQ
 unfold Dy.fv at hP hQ
 have hL := fun (h : (playR ps shops cap l).2.2.1 = 0) => refused_law h
 generalize playR ps shops cap l = r at *
 obtain ⟨b, A, f⟩ := r
 dsimp only at hP hL
 generalize l.length = N at *
 clear hl hfit O hd
 unfold suo at hs0 e1 hA
 have zw := lt_of_block hs0
 unfold suv
 go_enter Tryz.func10, Tryz.ntmps10
 go_upto_region 1 with fail
 generalize w.alloc (.cells #[.slice a ps.length c, .int .i64 shops, .int .i64 cap] 24) = W at *
 go_upto_region 2 with fail
 refine hA.mono ?_
 rintro _ w1 ⟨rfl, hb1⟩
 clear hA
 have hbw : Below w.heap.size w w1 := e1.trans (hb1.mono e1.size)
 have hs1 : w1.heap[w.heap.size]? = some (suo (.slice a ps.length c) shops cap) := (hb1.block _ zw).trans hs0
 obtain ⟨s0, s1, s2⟩ := sul_cells hs1
 have zw1 := lt_of_block hs1
 have hP1 := hP w1 hbw
 clear e1 hb1 hs0 zw hP
 go_upto_region 4 with (first
  | (go_at_call 18; refine hP1.mono ?_; rintro _ w2 ⟨v, cs, ds, va, rfl, SH, AP, hb3⟩; obtain ⟨G1, G2, G3, G4, G5⟩ := got_box w2 #[.int .i64 0, .bool false, .slice none 0 0, .slice none 0 0, .slice none 0 0, .int .i64 0, .slice none 0 0, .int .i64 0, .slice none 0 0, .int .i64 0, .int .i64 0, .slice none 0 0, .slice none 0 0, .int .i64 0, .slice none 0 0, .slice none 0 0, .slice none 0 0, .slice none 0 0, .slice none 0 0] rfl b v f; have BW : Bw w _ w2.heap.size b v cs ds := ⟨G3, SH.below G5, (hbw.trans (hb3.mono hbw.size)).trans (G5.mono ((hbw.trans (hb3.mono hbw.size)).size))⟩; have hg := G4; have APZ : ∃ aa ca, va = .slice aa A.length ca ∧ Gn.Lies kAn _ aa ca A := (by obtain ⟨aa, ca, h1, h2⟩ := AP.lies; exact ⟨aa, ca, h1, h2.below G5⟩); have hsZ := (G5.block _ (Nat.lt_of_lt_of_le zw1 hb3.size)).trans ((hb3.block _ zw1).trans hs1); replace G3 := bko_cells G3; obtain ⟨t0, t1, t2, t3⟩ := fo_cells G2; obtain ⟨y0, y1, y2, y3⟩ := fo_cells G4; have hone := hid SH.one; have hinf : Hid ((Tryz.prog.info? 43).map (·.size) = some (cellsK b v).size) := hid infoK; have hb4 : Below w.heap.size w _ := (hbw.trans (hb3.mono hbw.size)).trans (G5.mono ((hbw.trans (hb3.mono hbw.size)).size)); dsimp only at t0 t1 y0 y1 G3 hb4; clear G4 G5 SH AP G2 hP1 s0 s1 s2 hbw; generalize cellsK b v = cc at *)
  | (refine wpList_store_mid rfl 43 _ _ rfl w2.heap.size 0 cc rfl rfl G1 hinf.out hone.out ?_))
 generalize ((((w2.alloc (.cells #[.int .i64 0, .bool false, .slice none 0 0, .slice none 0 0, .slice none 0 0, .int .i64 0, .slice none 0 0, .int .i64 0, .slice none 0 0, .int .i64 0, .int .i64 0, .slice none 0 0, .slice none 0 0, .int .i64 0, .slice none 0 0, .slice none 0 0, .slice none 0 0, .slice none 0 0, .slice none 0 0] 43)).alloc (.cells #[.int .i64 0, .int .i64 0] 47)).setCells w2.heap.size 0 cc.toList).setCell ⟨w2.heap.size + 1, 0, none⟩ (.int .i64 f.1)).setCell ⟨w2.heap.size + 1, 1, none⟩ (.int .i64 f.2) = Z at *
 clear G1 t0 t1 t2 t3 hb3 hone hinf y1 y2 y3 G3 hb4 zw1 hs1
 by_cases hf : f.1 = 0
 case neg =>
  have hbf := BW.bel
  have hne : (f.1 != 0) = true := by simpa using hf
  clear hL BW APZ hg hQ hsZ
  go_wp2_with fail
  exact bodyPost_ret (results_tmp Tryz.results10 _ _ _) rfl ⟨rfl, hbf⟩
 case pos =>
  obtain ⟨hA1, hA2, hA3⟩ := hL hf
  subst hA2
  obtain ⟨aa, ca, rfl, lA⟩ := APZ
  rw [hA1]
  cases N with
  | zero =>
   have hbf := BW.bel
   clear hL BW hg hQ hsZ hA3
   go_wp2_with fail
   exact bodyPost_ret (results_tmp Tryz.results10 _ _ _) rfl ⟨rfl, hbf⟩
  | succ n =>
   obtain ⟨za, oa, rfl, -, fa⟩ := lA.elem (i := n) (x := A.getD n (0, 0)) (by simp [List.getD, show n < A.length by omega])
   have g0 := fa 0 _ rfl
   simp only [Nat.add_zero] at g0
   replace hA3 := hA3 n rfl
   have hsub : IntKind.i64.wrap (((n + 1 : Nat) : Int) - 1) = (n : Int) := by rw [show (((n + 1 : Nat) : Int) - 1) = (n : Int) by omega]; exact wrap64' (by omega) (by omega)
   have hn0 : ¬ ((n : Int) < 0) := by omega
   have hnl : (n : Int) < ((n + 1 : Nat) : Int) := by omega
   by_cases he : (A.getD n (0, 0)).1 = 0
   ·have hbf := BW.bel
    dsimp only [kAn] at g0
    rw [he] at g0
    clear hL BW hg hQ hsZ hA3 lA fa he
    go_wp2_with fail
    exact bodyPost_ret (results_tmp Tryz.results10 _ _ _) rfl ⟨rfl, hbf⟩
   ·obtain ⟨A2, hr2⟩ := hA3 he
    dsimp only [kAn] at g0
    generalize (A.getD n (0, 0)).1 = e0 at *
    have hP2 := fun (X : World) (h : Below Z.heap.size Z X) => hQ n X (BW.bel.trans (h.mono BW.bel.size))
    rw [hr2, hT n rfl] at hP2
    dsimp only at hP2
    obtain ⟨s0, s1, s2⟩ := sul_cells hsZ
    have hroom' : n ≤ cl := by omega
    clear hL hQ hA3 hr2 hT lA fa hA1
    go_upto_region 7 with fail
    refine wp_region_held_drew (S := (fun X => Below Z.heap.size Z X)) (by kernel_rfl) ((Below.refl _ _).drew) (fun hS => ?_)
    refine tk 0 (.agg #[.slice a ps.length c, .int .i64 shops, .int .i64 cap]) hS ?_ ?_
    ·intro w' hS'; have q0 := (hS'.cell (cell_lt s0)).trans s0; have q1 := (hS'.cell (cell_lt s1)).trans s1; have q2 := (hS'.cell (cell_lt s2)).trans s2; go_simp
    refine tk 1 (.slice al (n + 1) cl) hS ?_ ?_
    ·intro w' _; go_simp
    refine tk 2 (.int .i64 (n : Int)) hS ?_ ?_
    ·intro w' _; go_simp
    refine tk 3 (.slice al n cl) hS ?_ ?_
    ·intro w' _; go_simp
    try simp only [Act.put]
    try simp only [nrm, Act.put]
    refine wpAnyH_ready (rs := [4, 9]) (by kernel_rfl) (by simp) ?_
    refine AllReadyH.cons rfl (fun K hK => ?_) (AllReadyH.cons rfl (fun K hK => ?_) AllReadyH.nil)
    ·go_simp
     refine (hP2 _ ((Below.refl _ _).drew)).mono ?_
     rintro _ w22 ⟨v2, cs2, ds2, va2, rfl, SH2, AP2, hb5⟩
     have hbA : Below Z.heap.size Z w22 := ((Below.refl _ _).drew).trans hb5
     have hg22 := (hbA.block _ (lt_of_block hg)).trans hg
     obtain ⟨E1, E2, E3, E4, E5⟩ := got_again w22 #[.int .i64 0, .bool false, .slice none 0 0, .slice none 0 0, .slice none 0 0, .int .i64 0, .slice none 0 0, .int .i64 0, .slice none 0 0, .int .i64 0, .int .i64 0, .slice none 0 0, .slice none 0 0, .int .i64 0, .slice none 0 0, .slice none 0 0, .slice none 0 0, .slice none 0 0, .slice none 0 0] rfl b v2 (w2.heap.size + 1) hg22
     have BW2 : Bw w _ w22.heap.size b v2 cs2 ds2 := ⟨E3, SH2.shows.below E5, BW.bel.trans ((hbA.trans (E5.mono hbA.size)).mono BW.bel.size)⟩
     have hbF := hbA.trans (E5.mono hbA.size)
     have hone := hid SH2.shows.one
     have hinf : Hid ((Tryz.prog.info? 43).map (·.size) = some (cellsK b v2).size) := hid infoK
     have hbP := hbA.trans ((below_putAll (below_alloc w22 (.cells #[.int .i64 0, .bool false, .slice none 0 0, .slice none 0 0, .slice none 0 0, .int .i64 0, .slice none 0 0, .int .i64 0, .slice none 0 0, .int .i64 0, .int .i64 0, .slice none 0 0, .slice none 0 0, .int .i64 0, .slice none 0 0, .slice none 0 0, .slice none 0 0, .slice none 0 0, .slice none 0 0] 43)) w22.heap.size 0 (cellsK b v2).toList (Nat.le_refl _)).mono hbA.size)
     rw [← putAll_cells] at hbP
     obtain ⟨t0, t1, t2, t3⟩ := fo_cells E2
     dsimp only at t0 t1
     have hbl := bel_alloc hbA (.cells #[.int .i64 0, .bool false, .slice none 0 0, .slice none 0 0, .slice none 0 0, .int .i64 0, .slice none 0 0, .int .i64 0, .slice none 0 0, .int .i64 0, .int .i64 0, .slice none 0 0, .slice none 0 0, .int .i64 0, .slice none 0 0, .slice none 0 0, .slice none 0 0, .slice none 0 0, .slice none 0 0] 43)
     clear SH2 AP2 hb5 hP2 E2 E3 E5
     generalize hcc : cellsK b v2 = cc2 at *
     replace hcc := hid hcc
     go_simp
     refine hK.out _ _ hbA (fun hS => ?_)
     clear hK K
     refine tk 5 (.tuple #[.agg cc2, va2, .agg #[.int .i64 0, .int .i64 0]]) hS ?_ ?_
     ·intro w' _; go_simp
     refine tk 6 (.agg cc2) hS ?_ ?_
     ·intro w' _; go_simp
     refine tk 7 (va2) hS ?_ ?_
     ·intro w' _; go_simp
     refine tk 8 (.agg #[.int .i64 0, .int .i64 0]) hS ?_ ?_
     ·intro w' _; go_simp
     try simp only [Act.put]
     refine rd 9 (.cons rfl (fun K hK => ?_) .nil)
     go_simp
     refine hK.out _ _ (hbl) (fun hS => ?_)
     clear hK K
     try simp only [nrm, Act.put]
     refine rd 10 (.cons rfl (fun K hK => ?_) .nil)
     rw [if_pos (by kernel_rfl)]
     refine wp_store_mid 43 _ _ rfl w22.heap.size 0 cc2 rfl rfl E1 hinf.out hone.out ?_
     generalize (w22.alloc (.cells #[.int .i64 0, .bool false, .slice none 0 0, .slice none 0 0, .slice none 0 0, .int .i64 0, .slice none 0 0, .int .i64 0, .slice none 0 0, .int .i64 0, .int .i64 0, .slice none 0 0, .slice none 0 0, .int .i64 0, .slice none 0 0, .slice none 0 0, .slice none 0 0, .slice none 0 0, .slice none 0 0] 43)).setCells w22.heap.size 0 cc2.toList = YY at *
     refine hK.out _ _ (hbP) (fun hS => ?_)
     clear hK K
     try simp only [List.getElem_toArray, List.getElem_cons_zero, List.getElem_cons_succ, Act.put]
     refine rd 11 (.cons rfl (fun K hK => ?_) .nil)
     go_simp
     refine hK.out _ _ (hbP) (fun hS => ?_)
     clear hK K
     try simp only [nrm, Act.put]
     refine rd 12 (.cons rfl (fun K hK => ?_) .nil)
     go_simp
     refine hK.out _ _ (hbF) (fun hS => ?_)
     clear hK K
     try simp only [nrm, Act.put]
     refine wpAnyH_done (by kernel_rfl) ?_ _
     obtain ⟨y0, -, -, -⟩ := fo_cells E4
     dsimp only at y0
     generalize (YY.setCell ⟨w2.heap.size + 1, 0, none⟩ (.int .i64 0)).setCell ⟨w2.heap.size + 1, 1, none⟩ (.int .i64 0) = V at *
     have BV := BW.below hbF
     have hbf := BV.bel
     obtain ⟨dK, uK, rK⟩ := underK
     have r1 := bko_load BV.box
     have r2 := bko_load BW2.box
     have hSm := same_any b v v2 cs cs2 ds ds2 V BV.sh BW2.sh
     simp only [bkv_cells] at hSm
     have hinl1 : Hid ((Tryz.prog.info? 43).map (·.size) = some (cellsK b v).toList.length) := hid infoK
     have hmk1 : Hid ((cellsK b v).toList.toArray = cellsK b v) := hid (by simp)
     have hinl2 : Hid ((Tryz.prog.info? 43).map (·.size) = some (cellsK b v2).toList.length) := hid infoK
     have hmk2 : Hid ((cellsK b v2).toList.toArray = cellsK b v2) := hid (by simp)
     generalize cellsK b v = d1 at *
     generalize cellsK b v2 = d2 at *
     clear BV BW BW2 hS t0 t1 t2 t3 hbF E4
     go_wp2_with (first
      | (refine wpList_load_kept (by kernel_rfl) 43 _ rfl w2.heap.size 0 rfl d1.toList dK r1 uK rK hinl1.out ?_; rw [hmk1.out])
      | (refine wpList_load_kept (by kernel_rfl) 43 _ rfl w22.heap.size 0 rfl d2.toList dK r2 uK rK hinl2.out ?_; rw [hmk2.out])
      | (go_at_call 22; refine hSm.mono ?_; rintro _ w5 ⟨rfl, hb6⟩))
     exact bodyPost_ret (results_tmp Tryz.results10 _ _ _) rfl ⟨rfl, hbf.trans (hb6.mono hbf.size)⟩
    ·go_simp
     have e9 := (below_alloc Z (.cells #[.int .i64 0, .bool false, .slice none 0 0, .slice none 0 0, .slice none 0 0, .int .i64 0, .slice none 0 0, .int .i64 0, .slice none 0 0, .int .i64 0, .int .i64 0, .slice none 0 0, .slice none 0 0, .int .i64 0, .slice none 0 0, .slice none 0 0, .slice none 0 0, .slice none 0 0, .slice none 0 0] 43)).drew
     have hX9 : (Z.alloc (.cells #[.int .i64 0, .bool false, .slice none 0 0, .slice none 0 0, .slice none 0 0, .int .i64 0, .slice none 0 0, .int .i64 0, .slice none 0 0, .int .i64 0, .int .i64 0, .slice none 0 0, .slice none 0 0, .int .i64 0, .slice none 0 0, .slice none 0 0, .slice none 0 0, .slice none 0 0, .slice none 0 0] 43)).drew.heap[Z.heap.size]? = some (.cells #[.int .i64 0, .bool false, .slice none 0 0, .slice none 0 0, .slice none 0 0, .int .i64 0, .slice none 0 0, .int .i64 0, .slice none 0 0, .int .i64 0, .int .i64 0, .slice none 0 0, .slice none 0 0, .int .i64 0, .slice none 0 0, .slice none 0 0, .slice none 0 0, .slice none 0 0, .slice none 0 0] 43) := heap_alloc_at _ _ _ rfl
     have hg9 := (e9.block _ (lt_of_block hg)).trans hg
     have hs9 := (e9.block _ (lt_of_block hsZ)).trans hsZ
     have hZ0 : Z.heap.size ≠ 0 := by have := lt_of_block hg; omega
     have hgz : w2.heap.size + 1 ≠ Z.heap.size := by have := lt_of_block hg; omega
     refine hK.out _ _ e9 (fun hS => ?_)
     clear hK K
     try simp only [nrm, Act.put]
     refine rd 4 (.cons rfl (fun K hK => ?_) .nil)
     go_simp
     refine (hP2 _ e9).mono ?_
     rintro _ w22 ⟨v2, cs2, ds2, va2, rfl, SH2, AP2, hb5⟩
     have hbA : Below Z.heap.size Z w22 := e9.trans (hb5.mono e9.size)
     obtain ⟨E1, E2, E3, E4, E5, E6, E7⟩ := got_late (zs := #[.int .i64 0, .bool false, .slice none 0 0, .slice none 0 0, .slice none 0 0, .int .i64 0, .slice none 0 0, .int .i64 0, .slice none 0 0, .int .i64 0, .int .i64 0, .slice none 0 0, .slice none 0 0, .int .i64 0, .slice none 0 0, .slice none 0 0, .slice none 0 0, .slice none 0 0, .slice none 0 0]) rfl (z := Z.heap.size) (g := w2.heap.size + 1) hb5 hX9 hZ0 SH2 hg9 hgz
     have hbF := E7 _ _ hbA (Nat.le_refl _)
     have BW2 : Bw w _ Z.heap.size b v2 cs2 ds2 := ⟨E3, E5, BW.bel.trans (hbF.mono BW.bel.size)⟩
     have hone := hid SH2.shows.one
     have hinf : Hid ((Tryz.prog.info? 43).map (·.size) = some (cellsK b v2).size) := hid infoK
     have hbP := E6 _ _ hbA (Nat.le_refl _)
     obtain ⟨t0, t1, t2, t3⟩ := fo_cells E2
     dsimp only at t0 t1
     clear SH2 AP2 hb5 hP2 E2 E3 E5 E6 E7
     generalize hcc : cellsK b v2 = cc2 at *
     replace hcc := hid hcc
     go_simp
     refine hK.out _ _ hbA (fun hS => ?_)
     clear hK K
     refine tk 5 (.tuple #[.agg cc2, va2, .agg #[.int .i64 0, .int .i64 0]]) hS ?_ ?_
     ·intro w' _; go_simp
     refine tk 6 (.agg cc2) hS ?_ ?_
     ·intro w' _; go_simp
     refine tk 7 (va2) hS ?_ ?_
     ·intro w' _; go_simp
     refine tk 8 (.agg #[.int .i64 0, .int .i64 0]) hS ?_ ?_
     ·intro w' _; go_simp
     try simp only [Act.put]
     refine rd 10 (.cons rfl (fun K hK => ?_) .nil)
     rw [if_pos (by kernel_rfl)]
     refine wp_store_mid 43 _ _ rfl Z.heap.size 0 cc2 rfl rfl E1 hinf.out hone.out ?_
     generalize w22.setCells Z.heap.size 0 cc2.toList = YY at *
     refine hK.out _ _ (hbP) (fun hS => ?_)
     clear hK K
     try simp only [List.getElem_toArray, List.getElem_cons_zero, List.getElem_cons_succ, Act.put]
     refine rd 11 (.cons rfl (fun K hK => ?_) .nil)
     go_simp
     refine hK.out _ _ (hbP) (fun hS => ?_)
     clear hK K
     try simp only [nrm, Act.put]
     refine rd 12 (.cons rfl (fun K hK => ?_) .nil)
     go_simp
     refine hK.out _ _ (hbF) (fun hS => ?_)
     clear hK K
     try simp only [nrm, Act.put]
     refine wpAnyH_done (by kernel_rfl) ?_ _
     obtain ⟨y0, -, -, -⟩ := fo_cells E4
     dsimp only at y0
     generalize (YY.setCell ⟨w2.heap.size + 1, 0, none⟩ (.int .i64 0)).setCell ⟨w2.heap.size + 1, 1, none⟩ (.int .i64 0) = V at *
     have BV := BW.below hbF
     have hbf := BV.bel
     obtain ⟨dK, uK, rK⟩ := underK
     have r1 := bko_load BV.box
     have r2 := bko_load BW2.box
     have hSm := same_any b v v2 cs cs2 ds ds2 V BV.sh BW2.sh
     simp only [bkv_cells] at hSm
     have hinl1 : Hid ((Tryz.prog.info? 43).map (·.size) = some (cellsK b v).toList.length) := hid infoK
     have hmk1 : Hid ((cellsK b v).toList.toArray = cellsK b v) := hid (by simp)
     have hinl2 : Hid ((Tryz.prog.info? 43).map (·.size) = some (cellsK b v2).toList.length) := hid infoK
     have hmk2 : Hid ((cellsK b v2).toList.toArray = cellsK b v2) := hid (by simp)
     generalize cellsK b v = d1 at *
     generalize cellsK b v2 = d2 at *
     clear BV BW BW2 hS t0 t1 t2 t3 hbF E4
     go_wp2_with (first
      | (refine wpList_load_kept (by kernel_rfl) 43 _ rfl w2.heap.size 0 rfl d1.toList dK r1 uK rK hinl1.out ?_; rw [hmk1.out])
      | (refine wpList_load_kept (by kernel_rfl) 43 _ rfl Z.heap.size 0 rfl d2.toList dK r2 uK rK hinl2.out ?_; rw [hmk2.out])
      | (go_at_call 22; refine hSm.mono ?_; rintro _ w5 ⟨rfl, hb6⟩))
     exact bodyPost_ret (results_tmp Tryz.results10 _ _ _) rfl ⟨rfl, hbf.trans (hb6.mono hbf.size)⟩
end Go.Proofs.YtofcnebekmjdoaaGreatDoor.Bn
