import Derived.Test.YtofcnebekmjdoaaGreatDoorLBdayab
import Derived.Test.YtofcnebekmjdoaaGreatDoorLBdayad
set_option maxHeartbeats 4000000
set_option maxRecDepth 100000
namespace Go.Proofs.YtofcnebekmjdoaaGreatDoor.Bn
open Go.RowKit Go.Proofs.YtofcnebekmjdoaaGreatDoor.Gn Go.Maps
theorem owns_h {w w' : World} {m n : Nat} {D : DataW Unit} (h : OwnsH w m n D) (hk : w'.heap[m]? = w.heap[m]?) : OwnsH w' m n D := by
 obtain ⟨es, clock, hb, r⟩ := h
 exact ⟨es, clock, hk.trans hb, r⟩
theorem owns_lt {w : World} {m n : Nat} {D : DataW Unit} (h : OwnsH w m n D) : m < w.heap.size := by
 obtain ⟨es, clock, hb, -⟩ := h
 exact lt_of_block hb
theorem cell_grown {w w' : World} {row : Option Nat} (hg : w.grownBy w' row) {z p : Nat} (hz : z < w.heap.size) (hn : row ≠ some z) : w'.cell? ⟨z, p, none⟩ = w.cell? ⟨z, p, none⟩ :=
 World.cell?_of_block (w := w) (a := ⟨z, p, none⟩) (hg.block z hz fun h => hn h.symm)
theorem day_old {b : Bank} (I : Inv b) (h1 : b.today = []) (h2 : b.days = []) {l : List Dd} {k : Nat} (hk : k < l.length) (h0 : (l.getD k zD).id ≠ 0) (hm : (l.getD k zD).id ∈ ids l k) : dsAt b l (k + 1) = dsAt b l k := by
 rw [ds_step b l hk]
 unfold dayStep
 rw [if_pos ⟨h0, (ds_had I h1 h2 (by omega) h0).2 hm⟩]
theorem day_new {b : Bank} (I : Inv b) (h1 : b.today = []) (h2 : b.days = []) {l : List Dd} {k : Nat} (hk : k < l.length) (hn : (l.getD k zD).id = 0 ∨ (l.getD k zD).id ∉ ids l k) : ¬ ((l.getD k zD).id ≠ 0 ∧ (l.getD k zD).id ∈ (dsAt b l k).had) := fun q => by
 rcases hn with h | h
 ·exact q.1 h
 ·exact h ((ds_had I h1 h2 (by omega) q.1).1 q.2)
theorem day_rest {b : Bank} (I : Inv b) (h1 : b.today = []) (h2 : b.days = []) {l : List Dd} {k : Nat} (hk : k < l.length) (hn : (l.getD k zD).id = 0 ∨ (l.getD k zD).id ∉ ids l k) :
  ((ans b l k).1 ≠ 0 → (dsAt b l (k + 1)).today = (dsAt b l k).today ∧ (dsAt b l (k + 1)).days = (dsAt b l k).days) ∧
  ((ans b l k).1 = 0 → (l.getD k zD).kind = 3 → (dsAt b l (k + 1)).today = (dsAt b l k).today ++ [⟨shopF (playL b l).1 (l.getD k zD).n, (l.getD k zD).n, (l.getD k zD).mv, (l.getD k zD).sum⟩] ∧ (dsAt b l (k + 1)).days = (dsAt b l k).days) ∧
  ((ans b l k).1 = 0 → (l.getD k zD).kind = 10 → (dsAt b l (k + 1)).today = [] ∧ (dsAt b l (k + 1)).days = (dsAt b l k).days ++ [(dsAt b l k).today]) ∧
  ((ans b l k).1 = 0 → (l.getD k zD).kind ≠ 3 → (l.getD k zD).kind ≠ 10 → (dsAt b l (k + 1)).today = (dsAt b l k).today ∧ (dsAt b l (k + 1)).days = (dsAt b l k).days) := by
 have hq := day_new I h1 h2 hk hn
 rw [ds_step b l hk]
 unfold dayStep
 rw [if_neg hq]
 refine ⟨fun h => ?_, fun h h3 => ?_, fun h h10 => ?_, fun h h3 h10 => ?_⟩
 ·rw [if_pos h]; exact ⟨rfl, rfl⟩
 ·rw [if_neg (by simpa using h), if_pos h3]; exact ⟨rfl, rfl⟩
 ·rw [if_neg (by simpa using h), if_neg (by show ¬ ((l.getD k zD).kind = 3); omega), if_pos h10]; exact ⟨rfl, rfl⟩
 ·rw [if_neg (by simpa using h), if_neg h3, if_neg h10]; exact ⟨rfl, rfl⟩
theorem bankDays_any (ps : List Pa) (a : Option Addr) (c : Nat) (shops cap : Int) (al : Option Addr) (cl : Nat) (l : List Dd) (w : World) (hl : Gn.Lies kPa w a c ps) (hd : Gn.Lies kDd w al cl l) (hfit : ∀ d ∈ l, FitD d) (O : Oth w) :
  Calls Tryz.prog 9 #[suv (.slice a ps.length c) shops cap, .slice al l.length cl] w fun e w' => e = .returned (.bool true) ∧ Below w.heap.size w w' := by
 have hmx := hd.len
 unfold maxLen at hmx
 have e1 := below_alloc w (suo (.slice a ps.length c) shops cap)
 have hs0 : (w.alloc (suo (.slice a ps.length c) shops cap)).heap[w.heap.size]? = some (suo (.slice a ps.length c) shops cap) := heap_alloc_at _ _ _ rfl
 have hA := alive_any (w.alloc (suo (.slice a ps.length c) shops cap)) (O.keep (e1.block 0 O.lt))
 have hP := fun (W : World) (h : Below w.heap.size w W) => play_any ps a c shops cap al cl l W (hl.below h) (hd.below h) hfit (O.keep (h.block 0 O.lt))
 unfold suv Plays at hP
 simp only [bkv_cells] at hP
 unfold Dy.fv at hP
 have hL : (playR ps shops cap l).2.2.1 = 0 → ∃ b0, Inv b0 ∧ b0.today = [] ∧ b0.days = [] ∧ l.length ≤ 150 ∧ (playR ps shops cap l).1 = (playL b0 l).1 ∧ (playR ps shops cap l).2.1.length = l.length ∧ ∀ k, (playR ps shops cap l).2.1.getD k (0, 0) = ans b0 l k := fun h => by
  obtain ⟨q1, q2, q3⟩ := playR_ok h
  refine ⟨startB ps shops.toNat cap, (playR_inv h).1, rfl, rfl, q2, by rw [q3], by rw [q3, List.length_map, log_len], fun k => by rw [q3]; rfl⟩
 generalize playR ps shops cap l = r at *
 obtain ⟨b, A, f⟩ := r
 dsimp only at hP hL
 clear hl O
 unfold suo at hs0 e1 hA
 have zw := lt_of_block hs0
 unfold suv
 go_enter Tryz.func9, Tryz.ntmps9
 go_upto_region 1 with fail
 generalize w.alloc (.cells #[.slice a ps.length c, .int .i64 shops, .int .i64 cap] 24) = W at *
 go_upto_region 2 with fail
 refine hA.mono ?_
 rintro _ w1 ⟨rfl, hb1⟩
 clear hA
 have hbw : Below w.heap.size w w1 := e1.trans (hb1.mono e1.size)
 have hs1 : w1.heap[w.heap.size]? = some (suo (.slice a ps.length c) shops cap) := (hb1.block _ zw).trans hs0
 obtain ⟨s0, s1, s2⟩ := sul_cells hs1
 have hP1 := hP w1 hbw
 clear e1 hb1 hs0 zw hP hs1
 go_upto_region 4 with (first
  | (go_at_call 18; refine hP1.mono ?_; rintro _ w2 ⟨v, cs, ds, va, rfl, SH, AP, hb3⟩; obtain ⟨G1, G2, G3, G4, G5⟩ := got_box w2 #[.int .i64 0, .bool false, .slice none 0 0, .slice none 0 0, .slice none 0 0, .int .i64 0, .slice none 0 0, .int .i64 0, .slice none 0 0, .int .i64 0, .int .i64 0, .slice none 0 0, .slice none 0 0, .int .i64 0, .slice none 0 0, .slice none 0 0, .slice none 0 0, .slice none 0 0, .slice none 0 0] rfl b v f; have BW : Bw w _ w2.heap.size b v cs ds := ⟨G3, SH.below G5, (hbw.trans (hb3.mono hbw.size)).trans (G5.mono ((hbw.trans (hb3.mono hbw.size)).size))⟩; have APZ : ∃ aa ca, va = .slice aa A.length ca ∧ Gn.Lies kAn _ aa ca A := (by obtain ⟨aa, ca, h1, h2⟩ := AP.lies; exact ⟨aa, ca, h1, h2.below G5⟩); replace G3 := bko_cells G3; obtain ⟨t0, t1, t2, t3⟩ := fo_cells G2; obtain ⟨y0, y1, y2, y3⟩ := fo_cells G4; have hone := hid SH.one; have hinf : Hid ((Tryz.prog.info? 43).map (·.size) = some (cellsK b v).size) := hid infoK; have hb4 : Below w.heap.size w _ := (hbw.trans (hb3.mono hbw.size)).trans (G5.mono ((hbw.trans (hb3.mono hbw.size)).size)); dsimp only at t0 t1 y0 y1 G3 hb4; clear G4 G5 SH AP G2 hP1 s0 s1 s2 hbw; generalize cellsK b v = cc at *)
  | (refine wpList_store_mid rfl 43 _ _ rfl w2.heap.size 0 cc rfl rfl G1 hinf.out hone.out ?_))
 generalize ((((w2.alloc (.cells #[.int .i64 0, .bool false, .slice none 0 0, .slice none 0 0, .slice none 0 0, .int .i64 0, .slice none 0 0, .int .i64 0, .slice none 0 0, .int .i64 0, .int .i64 0, .slice none 0 0, .slice none 0 0, .int .i64 0, .slice none 0 0, .slice none 0 0, .slice none 0 0, .slice none 0 0, .slice none 0 0] 43)).alloc (.cells #[.int .i64 0, .int .i64 0] 47)).setCells w2.heap.size 0 cc.toList).setCell ⟨w2.heap.size + 1, 0, none⟩ (.int .i64 f.1)).setCell ⟨w2.heap.size + 1, 1, none⟩ (.int .i64 f.2) = Z at *
 clear G1 t0 t1 t2 t3 hb3 hone hinf y1 y2 y3 G3 hb4
 by_cases hf : f.1 = 0
 case neg =>
  have hbf := BW.bel
  have hne : (f.1 != 0) = true := by simpa using hf
  clear hL BW APZ
  go_wp2_with fail
  exact bodyPost_ret (results_tmp Tryz.results9 _ _ _) rfl ⟨rfl, hbf⟩
 case pos =>
  obtain ⟨b0, I0, ht0, hy0, h150, hbe, hAl, hAt⟩ := hL hf
  rw [hf] at y0
  obtain ⟨aa, ca, rfl, lA⟩ := APZ
  have I := hid (show Inv b by rw [hbe]; exact play_inv I0 l)
  have hend := hid (ds_end I0 ht0 hy0 l)
  rw [← hbe] at hend
  have hdl : Hid (ds.map DV.l = b.days) := hid BW.sh.dsv
  have hsh : Hid (∀ n, shopF (playL b0 l).1 n = shopF b n) := hid fun n => by rw [hbe]
  have hsml := hid (ds_small b0 l)
  have hmm := @run_makeMap Tryz.prog
  have hlz := hd.below BW.bel
  obtain ⟨a4, c4, e4, l4⟩ := BW.sh.auths.lies
  obtain ⟨a17, c17, e17, l17⟩ := BW.sh.days.lies
  obtain ⟨-, -, -, -, C4, -, -, -, -, -, -, -, -, -, -, -, C16, C17, -⟩ := bko_cells BW.box
  obtain ⟨a16, c16, e16, l16⟩ := BW.sh.today.lies
  rw [e16] at C16
  clear e16
  rw [e4] at C4
  rw [e17] at C17
  clear e4 e17
  have hw2 := lt_of_block BW.box
  replace hAl := hid hAl
  replace hAt := hid hAt
  replace hbe := hid hbe
  have hdz : ds.length ≤ 1000000 := by
   have := congrArg List.length hdl.out
   rw [List.length_map, hend.out.2.1, List.length_map] at this
   have q := (hsml.out l.length (Nat.le_refl _)).2
   omega
  clear hL hf
  have O0 := World.ownsMap_made Z Tryz.prog 3 rBo
  have eM := below_alloc Z (.map #[] 0)
  have hmZ : (Z.alloc (.map #[] 0)).heap.size = Z.heap.size + 1 := by simp
  go_upto_region 10 with fail
  generalize Z.alloc (.map #[] 0) = Z1 at *
  clear y0
  go_loopw [30, 8, 9] (fun i a8 a9 wr => ∃ (k n9 : Nat) (vt : Value) (nn : Nat) (D : DataW Unit), k ≤ l.length ∧ i = .int .i64 k ∧ a8 = vt ∧ a9 = .int .i64 ((dsAt b0 l k).days.length : Int) ∧ n9 = (dsAt b0 l k).days.length ∧ Row Dy.kR 79 wr (Z.heap.size + 1) vt (dsAt b0 l k).today ∧ OwnsH wr Z.heap.size nn D ∧ Hs (ids l k) D ∧ nn ≤ k ∧ Below Z.heap.size Z wr ∧ Z.heap.size + 1 ≤ wr.heap.size) (fun i _ _ _ => l.length - (intOf i).toNat)
  case atStart => exact ⟨0, 0, _, 0, .map [], Nat.zero_le _, rfl, rfl, rfl, rfl, Row.nil, O0, hs_nil, Nat.le_refl _, eM, by omega⟩
  case round =>
   clear O0 eM hmZ
   obtain ⟨k, n9, vt, nn0, D, hk, rfl, rfl, rfl, hn9, RT, OT, HT, hnn, hbr, hsz⟩ := hrel
   by_cases hkl : k < l.length
   ·have hkl' : (k : Int) < l.length := by omega
    obtain ⟨zd, off, rfl, zlt, hcell⟩ := (hlz.below hbr).elem (i := k) (x := l.getD k zD) (by simp [List.getD, hkl])
    have e0 := hcell 0 _ rfl
    have e1 := hcell 1 _ rfl
    have e2 := hcell 2 _ rfl
    have e3 := hcell 3 _ rfl
    have e4' := hcell 4 _ rfl
    have e5 := hcell 5 _ rfl
    simp only [Nat.add_zero] at e0
    dsimp only [kDd] at e0 e1 e2 e3 e4' e5
    obtain ⟨hf1, hf2⟩ := hfit _ (getD_mem' zD hkl)
    have hka : k < A.length := by rw [hAl.out]; exact hkl
    obtain ⟨zn, on, rfl, znl, hca⟩ := lA.elem (i := k) (x := ans b0 l k) (by rw [← hAt.out k]; simp [List.getD, hka])
    have g0 := hca 0 _ rfl
    simp only [Nat.add_zero] at g0
    dsimp only [kAn] at g0
    have hka' : (k : Int) < A.length := by omega
    have hdo := fun h0 hm => hid (day_old I0 ht0 hy0 hkl h0 hm)
    have hdr := fun hn => hid (day_rest I0 ht0 hy0 hkl hn)
    have hmv := fun hn he hk3 => ds_move (b := b0) hkl hn he hk3
    have hdd := fun hn he hk10 => ds_day I0 ht0 hy0 hkl (day_new I0 ht0 hy0 hkl hn) he hk10
    have hin := hid (ids_next hkl)
    have hsk := hsml.out k hk
    clear hcell hca hfit
    rw [← hbe.out] at hmv hdd
    simp only [hsh.out] at hdr
    generalize l.getD k zD = d at *
    obtain ⟨x1, x2, x3, x4, x5, x6⟩ := d
    dsimp only at *
    generalize ans b0 l k = an at *
    obtain ⟨an1, an2⟩ := an
    dsimp only at *
    generalize dsAt b0 l k = S0 at *
    generalize ids l k = Lk at *
    have hb1 := below_alloc wr (.cells #[.int .i64 x1, .int .i64 x2, .int .i64 x3, .int .i64 x4, .int .i64 x5, .int .i64 x6] 74)
    have hz1 : (wr.alloc (.cells #[.int .i64 x1, .int .i64 x2, .int .i64 x3, .int .i64 x4, .int .i64 x5, .int .i64 x6] 74)).heap[wr.heap.size]? = some (.cells #[.int .i64 x1, .int .i64 x2, .int .i64 x3, .int .i64 x4, .int .i64 x5, .int .i64 x6] 74) := heap_alloc_at _ _ _ rfl
    have OT1 := owns_h OT (hb1.block _ (owns_lt OT))
    have RT1 := RT.below hb1
    have hbr1 := hbr.trans (hb1.mono hbr.size)
    have hsz1 := Nat.le_trans hsz hb1.size
    have hne1 : u8.ownBlock ≠ some wr.heap.size := fun e => Nat.lt_irrefl _ (RT.block_lt _ e).2
    have hzb : Z.heap.size + 1 ≤ wr.heap.size := hsz
    go_upto_region 12 with fail
    generalize wr.alloc (.cells #[.int .i64 x1, .int .i64 x2, .int .i64 x3, .int .i64 x4, .int .i64 x5, .int .i64 x6] 74) = Y at *
    clear e0 e1 e2 e3 e4' e5 hb1 RT OT hbr hsz zlt
    generalize wr.heap.size = zb at *
    obtain ⟨d0, d1, d2, d3, d4, d5⟩ := ddo_cells (d := (⟨x1, x2, x3, x4, x5, x6⟩ : Dd)) hz1
    dsimp only at d0 d1 d2 d3 d4 d5
    by_cases hq : x1 ≠ 0 ∧ x1 ∈ Lk
    ·have hlk := had_look OT1 HT hf1 hf2
     rw [decide_eq_true hq.2] at hlk
     have hx0 : (x1 != 0) = true := by simpa using hq.1
     have hN := hid (hdo hq.1 hq.2).out
     have HT' : Hs (ids l (k + 1)) D := HT.same (fun i => by rw [hin.out]; simp only [List.mem_append, List.mem_singleton]; exact ⟨fun h => h.elim id (fun e => e ▸ hq.2), Or.inl⟩)
     clear hq hdo hdr hmv hdd
     go_wp2_with fail
     go_roundw
     case rel => exact ⟨k + 1, _, _, nn0, D, by omega, by go_num, rfl, by rw [hN.out], rfl, by rw [hN.out]; exact RT1, OT1, HT', by omega, hbr1, hsz1⟩
     case measure => simp [intOf]; omega
    ·have hn : x1 = 0 ∨ x1 ∉ Lk := by
      by_cases h0 : x1 = 0
      ·exact Or.inl h0
      ·exact Or.inr (fun hm => hq ⟨h0, hm⟩)
     have hgo : Hid ((x1 != 0) = false ∨ ((x1 != 0) = true ∧ (Instr.lookup 77 (.map (some Z.heap.size)) (.int .i64 x1) false).run Tryz.prog Y = .ok (.bool false) Y)) := hid (by
      by_cases h0 : x1 = 0
      ·left; simp [h0]
      ·right
       have hlk := had_look OT1 HT hf1 hf2
       rw [decide_eq_false (hn.resolve_left h0)] at hlk
       exact ⟨by simpa using h0, hlk⟩)
     obtain ⟨Y2, hmu, O2, hg2, hs2⟩ := had_put OT1 (by omega) hf1 hf2
     have hH2 : Hs (ids l (k + 1)) (D.put (.int .i64 x1) (.lit (.bool true))) := by rw [hin.out]; exact HT.put x1
     have hbr2 : Below Z.heap.size Z Y2 := hbr1.grown hg2 (by omega) (fun j hj => by injection hj with hj; omega)
     have hsz2 : Z.heap.size + 1 ≤ Y2.heap.size := by omega
     have hz2 := hid ((hg2.block zb (lt_of_block hz1) (fun e => by injection e with e; omega)).trans hz1)
     have RT2 := RT1.grown hg2 (fun j hj e => by injection e with e; have := (RT1.block_lt j hj).1; omega)
     replace hdr := (hdr hn).out
     replace hmv := hid (hmv hn)
     replace hdd := hid (hdd hn)
     clear hdo hq hn OT1 HT RT1 hg2 hbr1 hsz1 hin
     rcases hgo.out with hx0 | ⟨hx0, hlk⟩
     all_goals
      clear hgo
      go_upto_region 14 with fail
      clear hmu d0 d1 d2 d3 d4 d5 hx0
      try clear hlk
      obtain ⟨d0, d1, d2, d3, d4, d5⟩ := ddo_cells (d := (⟨x1, x2, x3, x4, x5, x6⟩ : Dd)) hz2.out
      dsimp only at d0 d1 d2 d3 d4 d5
      have g0' := (hbr2.cell znl).trans g0
      by_cases he : an1 = 0
      case neg =>
       have hne : (an1 != 0) = true := by simpa using he
       have hN := hid (hdr.1 he)
       clear he
       go_wp2_with fail
       go_roundw
       case rel => exact ⟨k + 1, _, _, nn0 + 1, _, by omega, by go_num, rfl, by rw [hN.out.2], rfl, by rw [hN.out.1]; exact RT2, O2, hH2, by omega, hbr2, hsz2⟩
       case measure => simp [intOf]; omega
      case pos =>
       have heb : (an1 != 0) = false := by simp [he]
       have hst0 := hid (hdr.2.2.2 he)
       have hst3 := hid (hdr.2.1 he)
       have hst10 := hid (hdr.2.2.1 he)
       replace hmv := hid (hmv.out he)
       replace hdd := hid (hdd.out he)
       clear hdr he
       by_cases h3 : x2 = 3
       ·have hm3 := hmv.out h3
        have hst := hid (hst3.out h3)
        clear hst0 hst3 hst10 hmv hdd
        obtain ⟨nn, rfl⟩ : ∃ nn : Nat, x3 = nn := ⟨x3.toNat, by omega⟩
        have hnl : nn < b.auths.length := by omega
        obtain ⟨za, oa, rfl, zal, hc4⟩ := l4.elem (i := nn) (x := b.auths.getD nn zA) (by simp [List.getD, hnl])
        have hs1 : Z.cell? ⟨za, oa + nn * 8 + 1, none⟩ = some (.int .i64 (shopF b (nn : Int))) := by have q := hc4 1 _ rfl; unfold shopF; simpa [kAu] using q
        have hs1' := (hbr2.cell (cell_lt hs1)).trans hs1
        have C4' := (hbr2.cell hw2).trans C4
        have hlt3 : ¬ ((b.auths.length : Int) ≤ nn) := by omega
        have hlt4 : (nn : Int) < b.auths.length := by omega
        clear hc4 hs1
        go_upto_region 19 with fail
        replace h3 := hid h3
        have eD : Below Y2.heap.size Y2 Y2.drew := (Below.refl _ _).drew
        have RD := RT2.below eD
        have OD := owns_h O2 (eD.block _ (owns_lt O2))
        have hbD := hbr2.trans (eD.mono hbr2.size)
        have hszD := Nat.le_trans hsz2 eD.size
        have hS19 : _ ∧ _ ∧ _ := ⟨(eD.block _ (lt_of_block hz2.out)).trans hz2.out, (eD.cell (cell_lt C4')).trans C4', (eD.cell (cell_lt hs1')).trans hs1'⟩
        have hne2 : u8.ownBlock ≠ some w2.heap.size := fun e => by have := (RT2.block_lt _ e).1; omega
        have hne3 : u8.ownBlock ≠ some za := fun e => by have := (RT2.block_lt _ e).1; omega
        have hne4 : u8.ownBlock ≠ some Z.heap.size := fun e => by have := (RT2.block_lt _ e).1; omega
        clear d0 d1 d2 d3 d4 d5 C4' hs1' g0' eD RT2 O2 hbr2 hsz2 hm3
        generalize S0.today = td at *
        generalize shopF b (nn : Int) = sh at *
        refine wp_region_held_drew (S := (fun X => X.heap[zb]? = some (ddo ⟨x1, x2, (nn : Int), x4, x5, x6⟩) ∧ X.cell? ⟨w2.heap.size, 4, none⟩ = some (.slice (some ⟨za, oa, none⟩) b.auths.length c4) ∧ X.cell? ⟨za, oa + nn * 8 + 1, none⟩ = some (.int .i64 sh))) (by kernel_rfl) (hS19) (fun hS => ?_)
        generalize Y2.drew = Yd at *
        refine wpAnyH_take (i := 0) (v := u8) rfl (by kernel_rfl) (by kernel_rfl) (by kernel_rfl) (fun _ _ _ h => h) (Or.inl ⟨by kernel_rfl, ?_⟩) hS ?_
        ·intro w' _; go_simp
        refine wpAnyH_take (i := 1) (v := .pointer (some ⟨w2.heap.size, 4, none⟩)) rfl (by kernel_rfl) (by kernel_rfl) (by kernel_rfl) (fun _ _ _ h => h) (Or.inl ⟨by kernel_rfl, ?_⟩) hS ?_
        ·intro w' _; go_simp
        refine wpAnyH_take (i := 2) (v := .slice (some ⟨za, oa, none⟩) b.auths.length c4) rfl (by kernel_rfl) (by kernel_rfl) (by kernel_rfl) (fun _ _ _ h => h) (Or.inl ⟨by kernel_rfl, ?_⟩) hS ?_
        ·intro w' hS'; obtain ⟨k1, k2, k3⟩ := hS'; obtain ⟨e0, e1, e2, e3, e4, e5⟩ := ddo_cells k1; dsimp only at e0 e1 e2 e3 e4 e5; go_simp
        refine wpAnyH_take (i := 3) (v := .pointer (some ⟨zb, 2, none⟩)) rfl (by kernel_rfl) (by kernel_rfl) (by kernel_rfl) (fun _ _ _ h => h) (Or.inl ⟨by kernel_rfl, ?_⟩) hS ?_
        ·intro w' _; go_simp
        try simp only [List.getElem_toArray, List.getElem_cons_zero, List.getElem_cons_succ, Act.put, List.setIfInBounds_toArray, List.set_cons_zero, List.set_cons_succ]
        refine wpAnyH_take (i := 4) (v := .int .i64 (nn : Int)) rfl (by kernel_rfl) (by kernel_rfl) (by kernel_rfl) (fun _ _ _ h => h) (Or.inl ⟨by kernel_rfl, ?_⟩) hS ?_
        ·intro w' hS'; obtain ⟨k1, k2, k3⟩ := hS'; obtain ⟨e0, e1, e2, e3, e4, e5⟩ := ddo_cells k1; dsimp only at e0 e1 e2 e3 e4 e5; go_simp
        refine wpAnyH_take (i := 5) (v := .pointer (some ⟨za, oa + nn * 8, none⟩)) rfl (by kernel_rfl) (by kernel_rfl) (by kernel_rfl) (fun _ _ _ h => h) (Or.inl ⟨by kernel_rfl, ?_⟩) hS ?_
        ·intro w' _; go_simp
        refine wpAnyH_take (i := 6) (v := .pointer (some ⟨za, oa + nn * 8 + 1, none⟩)) rfl (by kernel_rfl) (by kernel_rfl) (by kernel_rfl) (fun _ _ _ h => h) (Or.inl ⟨by kernel_rfl, ?_⟩) hS ?_
        ·intro w' _; go_simp
        refine wpAnyH_take (i := 7) (v := .int .i64 sh) rfl (by kernel_rfl) (by kernel_rfl) (by kernel_rfl) (fun _ _ _ h => h) (Or.inl ⟨by kernel_rfl, ?_⟩) hS ?_
        ·intro w' hS'; obtain ⟨k1, k2, k3⟩ := hS'; obtain ⟨e0, e1, e2, e3, e4, e5⟩ := ddo_cells k1; dsimp only at e0 e1 e2 e3 e4 e5; go_simp
        try simp only [List.getElem_toArray, List.getElem_cons_zero, List.getElem_cons_succ, Act.put, List.setIfInBounds_toArray, List.set_cons_zero, List.set_cons_succ]
        refine wpAnyH_take (i := 8) (v := .pointer (some ⟨zb, 2, none⟩)) rfl (by kernel_rfl) (by kernel_rfl) (by kernel_rfl) (fun _ _ _ h => h) (Or.inl ⟨by kernel_rfl, ?_⟩) hS ?_
        ·intro w' _; go_simp
        refine wpAnyH_take (i := 9) (v := .int .i64 (nn : Int)) rfl (by kernel_rfl) (by kernel_rfl) (by kernel_rfl) (fun _ _ _ h => h) (Or.inl ⟨by kernel_rfl, ?_⟩) hS ?_
        ·intro w' hS'; obtain ⟨k1, k2, k3⟩ := hS'; obtain ⟨e0, e1, e2, e3, e4, e5⟩ := ddo_cells k1; dsimp only at e0 e1 e2 e3 e4 e5; go_simp
        refine wpAnyH_take (i := 10) (v := .pointer (some ⟨zb, 4, none⟩)) rfl (by kernel_rfl) (by kernel_rfl) (by kernel_rfl) (fun _ _ _ h => h) (Or.inl ⟨by kernel_rfl, ?_⟩) hS ?_
        ·intro w' _; go_simp
        refine wpAnyH_take (i := 11) (v := .int .i64 x5) rfl (by kernel_rfl) (by kernel_rfl) (by kernel_rfl) (fun _ _ _ h => h) (Or.inl ⟨by kernel_rfl, ?_⟩) hS ?_
        ·intro w' hS'; obtain ⟨k1, k2, k3⟩ := hS'; obtain ⟨e0, e1, e2, e3, e4, e5⟩ := ddo_cells k1; dsimp only at e0 e1 e2 e3 e4 e5; go_simp
        try simp only [List.getElem_toArray, List.getElem_cons_zero, List.getElem_cons_succ, Act.put, List.setIfInBounds_toArray, List.set_cons_zero, List.set_cons_succ]
        refine wpAnyH_take (i := 12) (v := .pointer (some ⟨zb, 5, none⟩)) rfl (by kernel_rfl) (by kernel_rfl) (by kernel_rfl) (fun _ _ _ h => h) (Or.inl ⟨by kernel_rfl, ?_⟩) hS ?_
        ·intro w' _; go_simp
        refine wpAnyH_take (i := 13) (v := .int .i64 x6) rfl (by kernel_rfl) (by kernel_rfl) (by kernel_rfl) (fun _ _ _ h => h) (Or.inl ⟨by kernel_rfl, ?_⟩) hS ?_
        ·intro w' hS'; obtain ⟨k1, k2, k3⟩ := hS'; obtain ⟨e0, e1, e2, e3, e4, e5⟩ := ddo_cells k1; dsimp only at e0 e1 e2 e3 e4 e5; go_simp
        refine wpAnyH_take (i := 14) (v := .agg #[.int .i64 sh, .int .i64 (nn : Int), .int .i64 x5, .int .i64 x6]) rfl (by kernel_rfl) (by kernel_rfl) (by kernel_rfl) (fun _ _ _ h => h) (Or.inl ⟨by kernel_rfl, ?_⟩) hS ?_
        ·intro w' _; go_simp
        try simp only [List.getElem_toArray, List.getElem_cons_zero, List.getElem_cons_succ, Act.put, List.setIfInBounds_toArray, List.set_cons_zero, List.set_cons_succ]
        refine wpAnyH_ready (rs := [15]) (by kernel_rfl) (by simp) ?_
        refine AllReadyH.cons rfl (fun K hK => ?_) AllReadyH.nil
        go_simp
        have eA := below_alloc Yd (.cells #[.int .i64 sh, .int .i64 (nn : Int), .int .i64 x5, .int .i64 x6] 79)
        have hone : Gn.Lies Dy.kR (Yd.alloc (.cells #[.int .i64 sh, .int .i64 (nn : Int), .int .i64 x5, .int .i64 x6] 79)) (some ⟨Yd.heap.size, 0, none⟩) 1 [(⟨sh, (nn : Int), x5, x6⟩ : Dy.Rc)] := lies_blk (K := Dy.kR) (L := [(⟨sh, (nn : Int), x5, x6⟩ : Dy.Rc)]) (heap_alloc_at _ _ _ rfl) rfl (by simp [maxLen]) _
        have S15 : _ ∧ _ ∧ _ := ⟨(eA.block _ (lt_of_block hS19.1)).trans hS19.1, (eA.cell (cell_lt hS19.2.1)).trans hS19.2.1, (eA.cell (cell_lt hS19.2.2)).trans hS19.2.2⟩
        have RA := RD.below eA
        have hszA := Nat.le_trans hszD eA.size
        have OA := owns_h OD (eA.block _ (owns_lt OD))
        refine hK.out _ _ S15 (fun hS => ?_)
        clear hK K
        have hYA := hbD.trans (eA.mono hbD.size)
        generalize Yd.alloc (.cells #[.int .i64 sh, .int .i64 (nn : Int), .int .i64 x5, .int .i64 x6] 79) = YA at *
        try simp only [List.getElem_toArray, List.getElem_cons_zero, List.getElem_cons_succ, Act.put, List.setIfInBounds_toArray, List.set_cons_zero, List.set_cons_succ]
        refine wpAnyH_ready (rs := [16]) (by kernel_rfl) (by simp) ?_
        refine AllReadyH.cons rfl (fun K hK => ?_) AllReadyH.nil
        refine step_append Dy.elemR _ rfl (.tmp 63) (.tmp 78) rfl (Z.heap.size + 1) u8 td rfl RA _ 1 1 [(⟨sh, (nn : Int), x5, x6⟩ : Dy.Rc)] rfl rfl hone (by simp [maxLen]; omega) (by simp; omega) hszA ?_
        intro v3 Y3 hown hgrow hat hon
        have hbw3 := below_grown hYA hgrow RA (Nat.le_succ _) (Nat.le_trans (Nat.le_succ _) hszA)
        have S16 : _ ∧ _ ∧ _ := ⟨(hgrow.block _ (lt_of_block S15.1) (fun e => hne1 e.symm)).trans S15.1, (cell_grown hgrow (cell_lt S15.2.1) (fun e => hne2 e)).trans S15.2.1, (cell_grown hgrow (cell_lt S15.2.2) (fun e => hne3 e)).trans S15.2.2⟩
        have O16 := owns_h OA (hgrow.block _ (owns_lt OA) (fun e => hne4 e.symm))
        have hs16 := Nat.le_trans hszA hgrow.size
        refine hK.out _ _ S16 (fun hS => ?_)
        clear hK K
        clear hgrow hat hon
        try simp only [List.getElem_toArray, List.getElem_cons_zero, List.getElem_cons_succ, Act.put, List.setIfInBounds_toArray, List.set_cons_zero, List.set_cons_succ]
        refine wpAnyH_ready (rs := [17]) (by kernel_rfl) (by simp) ?_
        refine AllReadyH.cons rfl (fun K hK => ?_) AllReadyH.nil
        go_simp
        refine hK.out _ _ S16 (fun hS => ?_)
        clear hK K
        try simp only [List.getElem_toArray, List.getElem_cons_zero, List.getElem_cons_succ, Act.put, List.setIfInBounds_toArray, List.set_cons_zero, List.set_cons_succ]
        refine wpAnyH_done (by kernel_rfl) ?_ _
        go_wp2_with fail
        go_roundw
        case rel => exact ⟨k + 1, _, _, nn0 + 1, _, by omega, by go_num, rfl, by rw [hst.out.2], rfl, by rw [hst.out.1]; exact hown, O16, hH2, by omega, hbw3, hs16⟩
        case measure => simp [intOf]; omega
       ·by_cases h10 : x2 = 10
        ·have hst := hid (hst10.out h10)
         obtain ⟨hday, hR⟩ := hdd.out h10
         clear hst0 hst3 hst10 hmv hdd
         obtain ⟨x, hx1, hx⟩ : ∃ x, ds[S0.days.length]? = some x ∧ x.l = Dy.fileB S0.today := by
          rw [← hdl.out, List.getElem?_map] at hday
          cases h : ds[S0.days.length]? with
          | none => rw [h] at hday; cases hday
          | some x => rw [h] at hday; exact ⟨x, rfl, Option.some.inj hday⟩
         have hdn : S0.days.length < ds.length := (List.getElem?_eq_some_iff.1 hx1).1
         obtain ⟨zy, oy, rfl, zyl, hcy⟩ := l17.elem (i := S0.days.length) (x := x) hx1
         have y17 := hcy 0 _ rfl
         simp only [Nat.add_zero] at y17
         dsimp only [kD] at y17
         rw [Nat.mul_one] at y17
         obtain ⟨af, cf, ef, lf⟩ := (BW.sh.files x (List.mem_of_getElem? hx1)).lies
         injection ef with q1 _ q2
         subst q1 q2
         have hPa := Dy.parse_any x.l (.slice x.a x.l.length x.cap) Y2 ⟨_, _, rfl, lf.below hbr2, x.fit⟩ (by rw [hx]; exact Dy.file_byt hR)
         unfold Dy.AnswersP at hPa
         rw [hx, Dy.turns hR] at hPa
         rw [hx] at y17
         have y17' := (hbr2.cell (cell_lt y17)).trans y17
         have C17' := (hbr2.cell hw2).trans C17
         have hlt3 : ¬ ((ds.length : Int) ≤ S0.days.length) := by omega
         have hlt4 : (S0.days.length : Int) < ds.length := by omega
         have h3' : (x2 == 3) = false := by simpa using h3
         clear hday hcy hx1 hx y17 lf h3
         go_upto_region 23 with fail
         go_upto_region 24 with fail
         refine hPa.mono ?_
         rintro _ Y3 ⟨v', rfl, hr', hb5⟩
         obtain ⟨ar, cr, rfl, lr⟩ := Dy.Row.at hr'
         have RT3 := Dy.Row.at (RT2.below hb5)
         obtain ⟨at3, ct3, rfl, l3⟩ := RT3
         have O3 := owns_h O2 (hb5.block _ (owns_lt O2))
         have hbr3 := hbr2.trans (hb5.mono hbr2.size)
         have hsz3 := Nat.le_trans hsz2 hb5.size
         have hSo := Dy.sorted_any S0.today (.slice at3 S0.today.length ct3) Y3 ⟨_, _, rfl, l3⟩ (by omega)
         unfold Dy.AnswersR at hSo
         have hSm := fun (X : World) (v2 : Value) (h : Below Y3.heap.size Y3 X) => Dy.same_any (Dy.sortR S0.today) (.slice ar (Dy.sortR S0.today).length cr) v2 X ⟨_, _, rfl, lr.below h⟩
         clear hPa hr' d0 d1 d2 d3 d4 d5 C17' y17' g0' RT2 O2 hbr2 hsz2
         go_upto_region 25 with (first
          | (go_at_call 35; refine hSo.mono ?_; rintro _ Y4 ⟨a5, cz, rfl, lS, -, -, hb6⟩; have hSm1 := hSm Y4 _ hb6 ⟨a5, cz, rfl, lS⟩)
          | (go_at_call 34; refine hSm1.mono ?_; rintro _ Y5 ⟨rfl, hb7⟩))
         have hb8 := hb6.trans (hb7.mono hb6.size)
         have O5 := owns_h O3 (hb8.block _ (owns_lt O3))
         have hbr5 := hbr3.trans (hb8.mono hbr3.size)
         have hsz5 := Nat.le_trans hsz3 hb8.size
         clear hSo hSm hSm1
         go_wp2_with fail
         go_roundw
         case rel => exact ⟨k + 1, _, _, nn0 + 1, _, by omega, by go_num, rfl, by rw [hst.out.2, List.length_append]; go_num, rfl, by rw [hst.out.1]; exact Row.nil, O5, hH2, by omega, hbr5, hsz5⟩
         case measure => simp [intOf]; omega
        ·have hst := hid (hst0.out h3 h10)
         clear hst0 hst3 hst10 hmv hdd
         have h3' : (x2 == 3) = false := by simpa using h3
         have h10' : (x2 == 10) = false := by simpa using h10
         clear h3 h10
         go_wp2_with fail
         go_roundw
         case rel => exact ⟨k + 1, _, _, nn0 + 1, _, by omega, by go_num, rfl, by rw [hst.out.2], rfl, by rw [hst.out.1]; exact RT2, O2, hH2, by omega, hbr2, hsz2⟩
         case measure => simp [intOf]; omega
   ·obtain rfl : k = l.length := by omega
    have hge : ¬ ((l.length : Int) < l.length) := by omega
    obtain ⟨q1, q2, -⟩ := hend.out
    have hdn : (dsAt b0 l l.length).days.length = ds.length := by
     have := congrArg List.length hdl.out
     rw [List.length_map, q2, List.length_map] at this
     exact this.symm
    rw [hdn]
    rw [q1] at RT
    have hSm := Dy.same_any b.today u8 (.slice a16 b.today.length c16) wr (Dy.Row.at RT) ⟨_, _, rfl, l16.below hbr⟩
    have C16' := (hbr.cell hw2).trans C16
    have C17' := (hbr.cell hw2).trans C17
    have hbw := BW.bel.trans (hbr.mono BW.bel.size)
    go_wp2_with (go_at_call 34; refine hSm.mono ?_; rintro _ Y9 ⟨rfl, hb9⟩)
    exact bodyPost_ret (results_tmp Tryz.results9 _ _ _) rfl ⟨rfl, hbw.trans (hb9.mono hbw.size)⟩
end Go.Proofs.YtofcnebekmjdoaaGreatDoor.Bn
