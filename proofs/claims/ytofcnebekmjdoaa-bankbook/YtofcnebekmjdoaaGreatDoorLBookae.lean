import Derived.Test.YtofcnebekmjdoaaGreatDoorLBookad
set_option maxHeartbeats 4000000
set_option maxRecDepth 100000
namespace Go.Proofs.YtofcnebekmjdoaaGreatDoor.Bn
open Go.RowKit Go.Proofs.YtofcnebekmjdoaaGreatDoor.Gn Go.Maps
theorem playR_bad {ps : List Pa} {shops cap : Int} {l : List Dd} (h : (playR ps shops cap l).2.2.1 ≠ 0) : (playR ps shops cap l).1 = zB := by
 unfold playR at h ⊢
 split
 ·rfl
 ·rename_i h1
  rw [if_neg h1] at h
  split
  ·rfl
  ·rename_i h2
   rw [if_neg h2] at h
   exact absurd rfl h
theorem so_two {w : World} {z : Nat} {x : Int} {y : Value} (h : w.heap[z]? = some (.cells #[.int .i64 x, y] 31)) : w.cell? ⟨z, 0, none⟩ = some (.int .i64 x) ∧ w.cell? ⟨z, 1, none⟩ = some y := by
 refine ⟨?_, ?_⟩ <;> simp [World.cell?, h]
theorem sendAt0 (s1 s2 : Int) (a1 a2 : Option Addr) (n1 n2 c1 c2 : Nat) (w : World) : (Instr.index 32 (.agg #[.int .i64 s1, .slice a1 n1 c1, .int .i64 s2, .slice a2 n2 c2]) (.int .i64 0)).run Tryz.prog w = .ok (.agg #[.int .i64 s1, .slice a1 n1 c1]) w := by
 kernel_rfl
theorem sendAt1 (s1 s2 : Int) (a1 a2 : Option Addr) (n1 n2 c1 c2 : Nat) (w : World) : (Instr.index 32 (.agg #[.int .i64 s1, .slice a1 n1 c1, .int .i64 s2, .slice a2 n2 c2]) (.int .i64 1)).run Tryz.prog w = .ok (.agg #[.int .i64 s2, .slice a2 n2 c2]) w := by
 kernel_rfl
theorem take_tr {l : List Po.Tr} {i : Nat} (hi : i < l.length) : l.take (i + 1) = l.take i ++ [l.getD i Po.zeroT] := by
 rw [List.take_add_one]; simp [List.getD, hi]
theorem tr_step {l : List Po.Tr} (came : Int) {m : Nat} (hm : m < l.length) :
  ((l.getD m Po.zeroT).n ≤ came → sumOn (wayBy came) (l.take (m + 1)) = sumOn (wayBy came) (l.take m) ∧ sumOn (backBy came) (l.take (m + 1)) = sumOn (backBy came) (l.take m)) ∧
  (¬ (l.getD m Po.zeroT).n ≤ came → (l.getD m Po.zeroT).k = 3 → sumOn (wayBy came) (l.take (m + 1)) = sumOn (wayBy came) (l.take m) ∧ sumOn (backBy came) (l.take (m + 1)) = sumOn (backBy came) (l.take m) + (l.getD m Po.zeroT).s) ∧
  (¬ (l.getD m Po.zeroT).n ≤ came → ¬ (l.getD m Po.zeroT).k = 3 → sumOn (wayBy came) (l.take (m + 1)) = sumOn (wayBy came) (l.take m) + (l.getD m Po.zeroT).s ∧ sumOn (backBy came) (l.take (m + 1)) = sumOn (backBy came) (l.take m)) := by
 rw [take_tr hm, sumOn_append, sumOn_append, sumOn_one, sumOn_one]
 generalize sumOn (wayBy came) (l.take m) = A
 generalize sumOn (backBy came) (l.take m) = B
 unfold wayBy backBy
 refine ⟨fun h => ?_, fun h h3 => ?_, fun h h3 => ?_⟩
 ·rw [if_neg (by omega), if_neg (by omega)]; omega
 ·rw [if_neg (fun q => q.2 h3), if_pos ⟨by omega, h3⟩]; omega
 ·rw [if_pos ⟨by omega, h3⟩, if_neg (fun q => h3 q.2)]; omega
theorem tr_small {s : Po.Se} (R : Po.Right s) (came : Int) : ∀ m, m ≤ s.kept.length → 0 ≤ sumOn (wayBy came) (s.kept.take m) ∧ sumOn (wayBy came) (s.kept.take m) ≤ 1000000 * (m : Int) ∧ 0 ≤ sumOn (backBy came) (s.kept.take m) ∧ sumOn (backBy came) (s.kept.take m) ≤ 1000000 * (m : Int) := by
 intro m
 induction m with
 | zero => intro _; show (0 : Int) ≤ 0 ∧ (0 : Int) ≤ _ ∧ (0 : Int) ≤ 0 ∧ (0 : Int) ≤ _; omega
 | succ m ih =>
  intro hm
  have h := ih (by omega)
  have hs := (R.each m (s.kept.getD m Po.zeroT) (by simp [List.getD, show m < s.kept.length by omega])).2.1
  rw [take_tr (by omega), sumOn_append, sumOn_append, sumOn_one, sumOn_one]
  generalize sumOn (wayBy came) (s.kept.take m) = A at *
  generalize sumOn (backBy came) (s.kept.take m) = B at *
  unfold wayBy backBy
  split <;> split <;> omega
theorem dis_take {l : List Au.Au} {i : Nat} (hi : i < l.length) : sumOn Au.Au.dis (l.take (i + 1)) = sumOn Au.Au.dis (l.take i) + (l.getD i zA).dis := by
 rw [take_au hi, sumOn_append, sumOn_one]
theorem dis_small {l : List Au.Au} (h : ∀ a ∈ l, Au.Rng a) : ∀ i, i ≤ l.length → 0 ≤ sumOn Au.Au.dis (l.take i) ∧ sumOn Au.Au.dis (l.take i) ≤ 1000000 * (i : Int) := by
 intro i
 induction i with
 | zero => intro _; show (0 : Int) ≤ 0 ∧ (0 : Int) ≤ _; omega
 | succ i ih =>
  intro hi
  have h1 := ih (by omega)
  have h2 := h _ (getD_mem' zA (show i < l.length by omega))
  unfold Au.Rng at h2
  rw [dis_take (by omega)]
  omega
structure Wv (b : Bank) (k : Nat) (W V : Int) : Prop where
 zero : k = 0 → W = 0 ∧ V = 0
 one : k = 1 → W = sumOn (wayBy (b.seen true)) (b.snd false).kept ∧ V = sumOn (backBy (b.seen true)) (b.snd false).kept
 two : k = 2 → W = onWay b ∧ V = onBack b
theorem wv_zero (b : Bank) : Wv b 0 0 0 := ⟨fun _ => ⟨rfl, rfl⟩, (fun h => by cases h), (fun h => by cases h)⟩
theorem wv_one (b : Bank) : Wv b 1 (0 + sumOn (wayBy (b.seen true)) (b.snd false).kept) (0 + sumOn (backBy (b.seen true)) (b.snd false).kept) := ⟨(fun h => by cases h), fun _ => ⟨Int.zero_add _, Int.zero_add _⟩, (fun h => by cases h)⟩
theorem wv_two {b : Bank} {W V : Int} (h1 : W = sumOn (wayBy (b.seen true)) (b.snd false).kept) (h2 : V = sumOn (backBy (b.seen true)) (b.snd false).kept) : Wv b 2 (W + sumOn (wayBy (b.seen false)) (b.snd true).kept) (V + sumOn (backBy (b.seen false)) (b.snd true).kept) := ⟨(fun h => by cases h), (fun h => by cases h), fun _ => by subst h1 h2; exact ⟨rfl, rfl⟩⟩
theorem bankBook_any (ps : List Pa) (a : Option Addr) (c : Nat) (shops cap : Int) (al : Option Addr) (cl : Nat) (l : List Dd) (w : World) (hl : Gn.Lies kPa w a c ps) (hd : Gn.Lies kDd w al cl l) (hfit : ∀ d ∈ l, FitD d) (O : Oth w) :
  Calls Tryz.prog 4 #[suv (.slice a ps.length c) shops cap, .slice al l.length cl] w fun e w' => e = .returned (.bool true) ∧ Below w.heap.size w w' := by
 have hmx := hd.len
 unfold maxLen at hmx
 have e1 := below_alloc w (suo (.slice a ps.length c) shops cap)
 have hs0 : (w.alloc (suo (.slice a ps.length c) shops cap)).heap[w.heap.size]? = some (suo (.slice a ps.length c) shops cap) := heap_alloc_at _ _ _ rfl
 have hA := alive_any (w.alloc (suo (.slice a ps.length c) shops cap)) (O.keep (e1.block 0 O.lt))
 have hP := fun (W : World) (h : Below w.heap.size w W) => play_any ps a c shops cap al cl l W (hl.below h) (hd.below h) hfit (O.keep (h.block 0 O.lt))
 unfold suv Plays at hP
 simp only [bkv_cells] at hP
 unfold Dy.fv at hP
 have hL : ((playR ps shops cap l).2.2.1 = 0 → Inv (playR ps shops cap l).1) ∧ ((playR ps shops cap l).2.2.1 ≠ 0 → (playR ps shops cap l).1 = zB) := ⟨fun h => (playR_inv h).2, fun h => playR_bad h⟩
 generalize playR ps shops cap l = r at *
 obtain ⟨b, A, f⟩ := r
 dsimp only at hP hL
 clear hl hfit O hd
 unfold suo at hs0 e1 hA
 have zw := lt_of_block hs0
 unfold suv
 go_enter Tryz.func4, Tryz.ntmps4
 go_upto_region 1 with fail
 generalize w.alloc (.cells #[.slice a ps.length c, .int .i64 shops, .int .i64 cap] 24) = W at *
 go_upto_region 2 with fail
 refine hA.mono ?_
 rintro _ w1 ⟨rfl, hb1⟩
 clear hA
 have hbw : Below w.heap.size w w1 := e1.trans (hb1.mono e1.size)
 have hs1 : w1.heap[w.heap.size]? = some (suo (.slice a ps.length c) shops cap) := (hb1.block _ zw).trans hs0
 obtain ⟨s0, s1, s2⟩ := sul_cells hs1
 have hP1 := hP w1 hbw
 clear e1 hb1 hs0 zw hP hs1
 go_upto_region 4 with (first
  | (go_at_call 18; refine hP1.mono ?_; rintro _ w2 ⟨v, cs, ds, va, rfl, SH, AP, hb3⟩; obtain ⟨G1, G2, G3, G4, G5⟩ := got_box w2 #[.int .i64 0, .bool false, .slice none 0 0, .slice none 0 0, .slice none 0 0, .int .i64 0, .slice none 0 0, .int .i64 0, .slice none 0 0, .int .i64 0, .int .i64 0, .slice none 0 0, .slice none 0 0, .int .i64 0, .slice none 0 0, .slice none 0 0, .slice none 0 0, .slice none 0 0, .slice none 0 0] rfl b v f; have BW : Bw w _ w2.heap.size b v cs ds := ⟨G3, SH.below G5, (hbw.trans (hb3.mono hbw.size)).trans (G5.mono ((hbw.trans (hb3.mono hbw.size)).size))⟩; replace G3 := bko_cells G3; obtain ⟨t0, t1, t2, t3⟩ := fo_cells G2; obtain ⟨y0, y1, y2, y3⟩ := fo_cells G4; have hone := hid SH.one; have hinf : Hid ((Tryz.prog.info? 43).map (·.size) = some (cellsK b v).size) := hid infoK; have hb4 : Below w.heap.size w _ := (hbw.trans (hb3.mono hbw.size)).trans (G5.mono ((hbw.trans (hb3.mono hbw.size)).size)); dsimp only at t0 t1 y0 y1 G3 hb4; clear G4 G5 SH AP G2 hP1 s0 s1 s2 hbw; generalize cellsK b v = cc at *)
  | (refine wpList_store_mid rfl 43 _ _ rfl w2.heap.size 0 cc rfl rfl G1 hinf.out hone.out ?_))
 generalize ((((w2.alloc (.cells #[.int .i64 0, .bool false, .slice none 0 0, .slice none 0 0, .slice none 0 0, .int .i64 0, .slice none 0 0, .int .i64 0, .slice none 0 0, .int .i64 0, .int .i64 0, .slice none 0 0, .slice none 0 0, .int .i64 0, .slice none 0 0, .slice none 0 0, .slice none 0 0, .slice none 0 0, .slice none 0 0] 43)).alloc (.cells #[.int .i64 0, .int .i64 0] 47)).setCells w2.heap.size 0 cc.toList).setCell ⟨w2.heap.size + 1, 0, none⟩ (.int .i64 f.1)).setCell ⟨w2.heap.size + 1, 1, none⟩ (.int .i64 f.2) = Z at *
 clear G1 t0 t1 t2 t3 hb3 hone hinf y1 y2 y3 G3 hb4
 by_cases hf : f.1 = 0
 case neg =>
  have hb := hL.2 hf
  subst hb
  have hbf := BW.bel
  have hS := fun (X : World) (h : Below Z.heap.size Z X) => same_any zB v zV cs [] ds [] X (BW.below h).sh (zB_shows X)
  simp only [bkv_cells] at hS
  obtain ⟨dK, uK, rK⟩ := underK
  have hrange := bko_load BW.box
  have hinl : Hid ((Tryz.prog.info? 43).map (·.size) = some (cellsK zB v).toList.length) := hid infoK
  have hmk : Hid ((cellsK zB v).toList.toArray = cellsK zB v) := hid (by simp)
  have hne : (f.1 != 0) = true := by simpa using hf
  generalize hz : cellsK zB zV = zz at *
  generalize cellsK zB v = c0 at *
  unfold cellsK zB zV at hz
  dsimp only at hz
  clear hL BW hf
  go_wp2_with (first
   | (refine wpList_load_mid rfl 43 _ rfl w2.heap.size 0 rfl c0.toList dK hrange uK rK hinl.out ?_; rw [hmk.out])
   | (go_at_call 22; refine (hS _ (Below.refl _ _)).mono ?_; rintro _ w5 ⟨rfl, hb5⟩))
  exact bodyPost_ret (results_tmp Tryz.results4 _ _ _) rfl ⟨rfl, hbf.trans (hb5.mono hbf.size)⟩
 case pos =>
  have I := hid (hL.1 hf)
  rw [hf] at y0
  have hcl : Hid (cs.length = b.cards.length) := hid (by rw [← BW.sh.csv, List.length_map])
  have hc8 : cs.length ≤ 8 := by rw [hcl.out]; exact I.out.held.cards8
  have hd8 : b.due.length ≤ 8 := I.out.held.due8
  have ha30 : b.auths.length ≤ 30 := by have := I.out.held.few; omega
  obtain ⟨a2, c2, e2, -⟩ := BW.sh.cards.lies
  obtain ⟨a3, c3, e3, -⟩ := BW.sh.due.lies
  obtain ⟨a4, c4, e4, -⟩ := BW.sh.auths.lies
  obtain ⟨a5, c5, e5, -⟩ := (BW.sh.kept false).lies
  obtain ⟨a6, c6, e6, -⟩ := (BW.sh.kept true).lies
  obtain ⟨ab, cb, eb, lb⟩ := BW.sh.book.lies
  have hW := Bk.wrong_any ab cb b.book Z (lies_ents lb)
  rw [I.out.books.right] at hW
  have hG := fun (acc : Int) (X : World) (h : Below Z.heap.size Z X) => Bk.get_any ab cb b.book acc X (lies_ents (lb.below h))
  obtain ⟨-, -, -, -, -, -, -, -, -, -, -, -, -, -, -, -, -, -, B18⟩ := bko_cells BW.box
  rw [eb] at B18
  replace e2 := hid e2
  replace e3 := hid e3
  replace e4 := hid e4
  replace e5 := hid e5
  replace e6 := hid e6
  replace eb := hid eb
  have hfe := fun (p q : Int) (V : World) => faultErr p q V
  generalize b.book.length = nb at *
  generalize (Bk.wrong b.book).2 = wb at *
  clear hL hf lb
  go_upto_region 6 with fail
  go_upto_region 7 with fail
  refine hW.mono ?_
  rintro _ Z2 ⟨rfl, hb0⟩
  have hZ2 : Below Z.heap.size Z Z2 := hb0
  obtain ⟨-, -, B2, -⟩ := bko_cells (BW.below hZ2).box
  rw [e2.out] at B2
  clear hW B18 y0 hb0
  go_upto_region 9 with fail
  clear B2
  go_loopw [44] (fun i wr => ∃ k : Nat, k ≤ cs.length ∧ i = .int .i64 k ∧ Below Z.heap.size Z wr) (fun i _ => cs.length - (intOf i).toNat)
  case atStart => exact ⟨0, Nat.zero_le _, rfl, hZ2⟩
  case round =>
   clear hZ2
   obtain ⟨k, hk, rfl, hbr⟩ := hrel
   have BR := BW.below hbr
   by_cases hlt : k < cs.length
   ·have hlt' : (k : Int) < cs.length := by omega
    obtain ⟨a7, c7, e7, l7⟩ := BR.sh.cards.lies
    rw [e2.out] at e7
    injection e7 with q1 _ q2
    subst q1 q2
    obtain ⟨z, off, rfl, zlt, f0, f1, f2, f3, f4, f5⟩ := card_cells l7 hlt
    have hgk : Bk.getE b.book (10 + (k : Int)) = (cs.getD k zCV).c.m := by
     rw [I.out.books.accC k (by rw [← hcl.out]; exact hlt), ← BR.sh.csv]
     simp [List.getD, hlt]
    replace hG := hG (10 + (k : Int))
    rw [hgk] at hG
    obtain ⟨-, -, -, -, -, -, -, -, -, -, -, -, -, -, -, -, -, -, B18⟩ := bko_cells BR.box
    rw [eb.out] at B18
    generalize (cs.getD k zCV).a = xa at *
    generalize (cs.getD k zCV).cap = xc at *
    generalize (cs.getD k zCV).c = x at *
    have hb5 := below_alloc wr (.cells #[.int .i64 x.m, .int .i64 x.h, .int .i64 x.p.t, .int .i64 x.p.c, .int .i64 x.p.s, .slice xa x.u.length xc] 61)
    have hP5 : (wr.alloc (.cells #[.int .i64 x.m, .int .i64 x.h, .int .i64 x.p.t, .int .i64 x.p.c, .int .i64 x.p.s, .slice xa x.u.length xc] 61)).heap[wr.heap.size]? = some (.cells #[.int .i64 x.m, .int .i64 x.h, .int .i64 x.p.t, .int .i64 x.p.c, .int .i64 x.p.s, .slice xa x.u.length xc] 61) := heap_alloc_at _ _ _ rfl
    have hbn := hbr.trans (hb5.mono hbr.size)
    replace B18 := (hb5.cell (cell_lt B18)).trans B18
    have hw10 : IntKind.i64.wrap (10 + (k : Int)) = 10 + (k : Int) := wrap64' (by omega) (by omega)
    clear hgk
    go_upto_region 11 with fail
    generalize wr.alloc (.cells #[.int .i64 x.m, .int .i64 x.h, .int .i64 x.p.t, .int .i64 x.p.c, .int .i64 x.p.s, .slice xa x.u.length xc] 61) = Y at *
    obtain ⟨p0, -⟩ := card_box hP5
    clear f0 f1 f2 f3 f4 f5 l7 BR hb5 hP5
    refine wp_region_held_drew (S := (fun V => Below Y.heap.size Y V)) (by kernel_rfl) ((Below.refl _ _).drew) (fun hS => ?_)
    refine tk 0 (.pointer (some ⟨w2.heap.size, 18, none⟩)) hS ?_ ?_
    ·intro w' _; go_simp
    refine tk 1 (.slice ab nb cb) hS ?_ ?_
    ·intro w' hS'; have q0 := (hS'.cell (cell_lt B18)).trans B18; go_simp
    refine tk 2 (.int .i64 (k : Int)) hS ?_ ?_
    ·intro w' _; go_simp
    refine tk 3 (.int .i64 (10 + (k : Int))) hS ?_ ?_
    ·intro w' _; go_simp
    try simp only [Act.put]
    refine tk 5 (.pointer (some ⟨wr.heap.size, 0, none⟩)) hS ?_ ?_
    ·intro w' _; go_simp
    refine tk 6 (.int .i64 x.m) hS ?_ ?_
    ·intro w' hS'; have q0 := (hS'.cell (cell_lt p0)).trans p0; go_simp
    try simp only [Act.put]
    refine rd 4 (.cons rfl (fun K hK => ?_) .nil)
    go_simp
    refine (hG _ (hbn.trans (((Below.refl _ _).drew).mono hbn.size))).mono ?_
    rintro _ w5 ⟨rfl, hb7⟩
    go_simp
    refine hK.out _ _ (((Below.refl _ _).drew).trans hb7) (fun hS => ?_)
    clear hK K
    refine tk 7 (.bool false) hS ?_ ?_
    ·intro w' _; go_simp
    try simp only [Act.put]
    refine wpAnyH_done (by kernel_rfl) ?_ _
    have hbz : Below Z.heap.size Z w5 := hbn.trans ((((Below.refl _ _).drew).trans hb7).mono hbn.size)
    go_wp2_with fail
    go_roundw
    case rel => exact ⟨k + 1, by omega, by go_num, hbz⟩
    case measure => simp [intOf]; omega
   ·obtain rfl : k = cs.length := by omega
    have hge : ¬ ((cs.length : Int) < cs.length) := by omega
    obtain ⟨-, -, -, B3, -⟩ := bko_cells BR.box
    rw [e3.out] at B3
    generalize wr = R at *
    go_upto_region 15 with fail
    clear B3
    go_loopw [61] (fun i wr => ∃ k : Nat, k ≤ b.due.length ∧ i = .int .i64 k ∧ Below Z.heap.size Z wr) (fun i _ => b.due.length - (intOf i).toNat)
    case atStart => exact ⟨0, Nat.zero_le _, rfl, hbr⟩
    case round =>
     clear hbr BR hge hlt hk
     obtain ⟨k, hk, rfl, hbr⟩ := hrel
     have BR := BW.below hbr
     by_cases hlt : k < b.due.length
     ·have hlt' : (k : Int) < b.due.length := by omega
      obtain ⟨a7, c7, e7, l7⟩ := BR.sh.due.lies
      rw [e3.out] at e7
      injection e7 with q1 _ q2
      subst q1 q2
      obtain ⟨z, off, rfl, zlt, f0⟩ := int_cell l7 hlt
      have hgk : Bk.getE b.book (50 + (k : Int)) = b.due.getD k 0 := I.out.books.accS k hlt
      have hG5 := hG (50 + (k : Int))
      rw [hgk] at hG5
      obtain ⟨-, -, -, -, -, -, -, -, -, -, -, -, -, -, -, -, -, -, B18⟩ := bko_cells BR.box
      rw [eb.out] at B18
      generalize b.due.getD k 0 = x at *
      clear hgk l7
      go_upto_region 17 with fail
      go_upto_region 18 with fail
      refine (hG5 _ hbr).mono ?_
      rintro _ w5 ⟨rfl, hb7⟩
      have hbz : Below Z.heap.size Z w5 := hbr.trans (hb7.mono hbr.size)
      clear f0 B18 hG5
      go_wp2_with fail
      go_roundw
      case rel => exact ⟨k + 1, by omega, by go_num, hbz⟩
      case measure => simp [intOf]; omega
     ·obtain rfl : k = b.due.length := by omega
      have hge : ¬ ((b.due.length : Int) < b.due.length) := by omega
      obtain ⟨-, -, -, -, -, B5, B6, B7, B8, -⟩ := bko_cells BR.box
      rw [e5.out] at B6
      rw [e6.out] at B8
      generalize wr = R at *
      go_upto_region 22 with fail
      clear B5 B6 B7 B8
      go_loopw [76, 12, 13] (fun i wv bv X => ∃ (k : Nat) (W0 V0 : Int), k ≤ 2 ∧ i = .int .i64 k ∧ wv = .int .i64 W0 ∧ bv = .int .i64 V0 ∧ Wv b k W0 V0 ∧ Below Z.heap.size Z X) (fun i _ _ _ => 2 - (intOf i).toNat)
      case atStart => exact ⟨0, 0, 0, by omega, rfl, rfl, rfl, wv_zero b, hbr⟩
      case round =>
       clear hbr BR hge hlt hk
       obtain ⟨k, W0, V0, hk, rfl, rfl, rfl, hwv, hbr⟩ := hrel
       have BR := BW.below hbr
       by_cases hlt : k < 2
       ·obtain rfl | rfl : k = 0 ∨ k = 1 := by omega
        ·obtain ⟨rfl, rfl⟩ := hwv.zero rfl
         have hk0 := (I.out.sent.right false).few
         generalize wr = R at *
         obtain ⟨ak, ck, ek, lk⟩ := (BR.sh.kept false).lies
         have hSt := hid (below_alloc R (.cells #[.int .i64 (b.snd false).sent, .slice ak (b.snd false).kept.length ck] 31))
         have hPs : (R.alloc (.cells #[.int .i64 (b.snd false).sent, .slice ak (b.snd false).kept.length ck] 31)).heap[R.heap.size]? = some (.cells #[.int .i64 (b.snd false).sent, .slice ak (b.snd false).kept.length ck] 31) := heap_alloc_at _ _ _ rfl
         have hix := sendAt0 (b.snd false).sent (b.snd true).sent a5 a6 (b.snd false).kept.length (b.snd true).kept.length c5 c6
         have hak : a5 = ak ∧ c5 = ck := by
          have := e5.out.symm.trans ek
          injection this with q1 _ q2
          exact ⟨q1, q2⟩
         obtain ⟨rfl, rfl⟩ := hak
         have hmk := lk.len
         unfold maxLen at hmk
         clear ek
         go_upto_region 24 with fail
         generalize R.alloc (.cells #[.int .i64 (b.snd false).sent, .slice a5 (b.snd false).kept.length c5] 31) = R1 at *
         have hbR1 := hbr.trans (hSt.out.mono hbr.size)
         obtain ⟨u0, u1⟩ := so_two hPs
         go_upto_region 25 with fail
         clear u0 u1 hPs hix lk hSt BR
         go_loopw [83, 12, 13] (fun i wv bv X => ∃ m : Nat, m ≤ (b.snd false).kept.length ∧ i = .int .i64 m ∧ wv = .int .i64 (0 + sumOn (wayBy (b.seen true)) ((b.snd false).kept.take m)) ∧ bv = .int .i64 (0 + sumOn (backBy (b.seen true)) ((b.snd false).kept.take m)) ∧ Below Z.heap.size Z X) (fun i _ _ _ => (b.snd false).kept.length - (intOf i).toNat)
         case atStart => exact ⟨0, Nat.zero_le _, rfl, by simp [sumOn], by simp [sumOn], hbR1⟩
         case round =>
          clear hbR1
          obtain ⟨m, hm, rfl, rfl, rfl, hbX⟩ := hrel
          have BX := BW.below hbX
          by_cases hml : m < (b.snd false).kept.length
          ·have hml' : (m : Int) < (b.snd false).kept.length := by omega
           obtain ⟨ak, ck, ek, lk⟩ := (BX.sh.kept false).lies
           rw [e5.out] at ek
           injection ek with q1 _ q2
           subst q1 q2
           obtain ⟨z, off, rfl, zlt, f0, f1, f2, f3⟩ := Po.tr_cells lk hml
           have hst := tr_step (b.seen true) hml
           have hsm := tr_small (I.out.sent.right false) (b.seen true) m hm
           have hse := tr_small (I.out.sent.right false) (b.seen true) (m + 1) (by omega)
           obtain ⟨-, -, -, -, -, -, -, -, -, B9, B10, -⟩ := bko_cells BX.box
           generalize (b.snd false).kept.getD m Po.zeroT = t at *
           have hb5 := below_alloc wr (.cells #[.int .i64 t.n, .int .i64 t.k, .int .i64 t.a, .int .i64 t.s] 64)
           have hP5 : (wr.alloc (.cells #[.int .i64 t.n, .int .i64 t.k, .int .i64 t.a, .int .i64 t.s] 64)).heap[wr.heap.size]? = some (.cells #[.int .i64 t.n, .int .i64 t.k, .int .i64 t.a, .int .i64 t.s] 64) := heap_alloc_at _ _ _ rfl
           have hbn := hbX.trans (hb5.mono hbX.size)
           have B9' := (hb5.cell (cell_lt B9)).trans B9
           have B10' := (hb5.cell (cell_lt B10)).trans B10
           go_upto_region 27 with fail
           generalize wr.alloc (.cells #[.int .i64 t.n, .int .i64 t.k, .int .i64 t.a, .int .i64 t.s] 64) = Y at *
           obtain ⟨p0, p1, p2, p3⟩ := Po.tob_cells hP5
           clear f0 f1 f2 f3 lk BX hb5 hP5 B9 B10
           by_cases hn : t.n ≤ b.seen true
           ·have hN := hst.1 hn
            go_quiet (fail)
            go_wp2_with fail
            go_roundw
            case rel => exact ⟨m + 1, by omega, by go_num, by rw [hN.1], by rw [hN.2], below_drewN hbn _⟩
            case measure => simp [intOf]; omega
           ·by_cases hk3 : t.k = 3
            ·have hN := hst.2.1 hn hk3
             go_quiet (fail)
             go_wp2_with fail
             go_roundw
             case rel => exact ⟨m + 1, by omega, by go_num, by rw [hN.1], by rw [hN.2]; congr 1; omega, below_drewN hbn _⟩
             case measure => simp [intOf]; omega
            ·have hN := hst.2.2 hn hk3
             go_quiet (fail)
             go_wp2_with fail
             go_roundw
             case rel => exact ⟨m + 1, by omega, by go_num, by rw [hN.1]; congr 1; omega, by rw [hN.2], below_drewN hbn _⟩
             case measure => simp [intOf]; omega
          ·obtain rfl : m = (b.snd false).kept.length := by omega
           have hge : ¬ (((b.snd false).kept.length : Int) < (b.snd false).kept.length) := by omega
           rw [List.take_length]
           go_wp2_with fail
           go_roundw
           case rel => exact ⟨0 + 1, _, _, by omega, by go_num, rfl, rfl, wv_one b, hbX⟩
           case measure => simp [intOf]
        ·obtain ⟨hw0, hv0⟩ := hwv.one rfl
         have hk40 := tr_small (I.out.sent.right false) (b.seen true) _ (Nat.le_refl _)
         rw [List.take_length, ← hw0, ← hv0] at hk40
         have hk0 := (I.out.sent.right false).few
         have hk1 := (I.out.sent.right true).few
         generalize wr = R at *
         obtain ⟨ak, ck, ek, lk⟩ := (BR.sh.kept true).lies
         have hSt := hid (below_alloc R (.cells #[.int .i64 (b.snd true).sent, .slice ak (b.snd true).kept.length ck] 31))
         have hPs : (R.alloc (.cells #[.int .i64 (b.snd true).sent, .slice ak (b.snd true).kept.length ck] 31)).heap[R.heap.size]? = some (.cells #[.int .i64 (b.snd true).sent, .slice ak (b.snd true).kept.length ck] 31) := heap_alloc_at _ _ _ rfl
         have hix := sendAt1 (b.snd false).sent (b.snd true).sent a5 a6 (b.snd false).kept.length (b.snd true).kept.length c5 c6
         have hak : a6 = ak ∧ c6 = ck := by
          have := e6.out.symm.trans ek
          injection this with q1 _ q2
          exact ⟨q1, q2⟩
         obtain ⟨rfl, rfl⟩ := hak
         have hmk := lk.len
         unfold maxLen at hmk
         clear ek
         go_upto_region 24 with fail
         generalize R.alloc (.cells #[.int .i64 (b.snd true).sent, .slice a6 (b.snd true).kept.length c6] 31) = R1 at *
         have hbR1 := hbr.trans (hSt.out.mono hbr.size)
         obtain ⟨u0, u1⟩ := so_two hPs
         go_upto_region 25 with fail
         clear u0 u1 hPs hix lk hSt BR
         go_loopw [83, 12, 13] (fun i wv bv X => ∃ m : Nat, m ≤ (b.snd true).kept.length ∧ i = .int .i64 m ∧ wv = .int .i64 (W0 + sumOn (wayBy (b.seen false)) ((b.snd true).kept.take m)) ∧ bv = .int .i64 (V0 + sumOn (backBy (b.seen false)) ((b.snd true).kept.take m)) ∧ Below Z.heap.size Z X) (fun i _ _ _ => (b.snd true).kept.length - (intOf i).toNat)
         case atStart => exact ⟨0, Nat.zero_le _, rfl, by simp [sumOn], by simp [sumOn], hbR1⟩
         case round =>
          clear hbR1
          obtain ⟨m, hm, rfl, rfl, rfl, hbX⟩ := hrel
          have BX := BW.below hbX
          by_cases hml : m < (b.snd true).kept.length
          ·have hml' : (m : Int) < (b.snd true).kept.length := by omega
           obtain ⟨ak, ck, ek, lk⟩ := (BX.sh.kept true).lies
           rw [e6.out] at ek
           injection ek with q1 _ q2
           subst q1 q2
           obtain ⟨z, off, rfl, zlt, f0, f1, f2, f3⟩ := Po.tr_cells lk hml
           have hst := tr_step (b.seen false) hml
           have hsm := tr_small (I.out.sent.right true) (b.seen false) m hm
           have hse := tr_small (I.out.sent.right true) (b.seen false) (m + 1) (by omega)
           obtain ⟨-, -, -, -, -, -, -, -, -, B9, B10, -⟩ := bko_cells BX.box
           generalize (b.snd true).kept.getD m Po.zeroT = t at *
           have hb5 := below_alloc wr (.cells #[.int .i64 t.n, .int .i64 t.k, .int .i64 t.a, .int .i64 t.s] 64)
           have hP5 : (wr.alloc (.cells #[.int .i64 t.n, .int .i64 t.k, .int .i64 t.a, .int .i64 t.s] 64)).heap[wr.heap.size]? = some (.cells #[.int .i64 t.n, .int .i64 t.k, .int .i64 t.a, .int .i64 t.s] 64) := heap_alloc_at _ _ _ rfl
           have hbn := hbX.trans (hb5.mono hbX.size)
           have B9' := (hb5.cell (cell_lt B9)).trans B9
           have B10' := (hb5.cell (cell_lt B10)).trans B10
           go_upto_region 27 with fail
           generalize wr.alloc (.cells #[.int .i64 t.n, .int .i64 t.k, .int .i64 t.a, .int .i64 t.s] 64) = Y at *
           obtain ⟨p0, p1, p2, p3⟩ := Po.tob_cells hP5
           clear f0 f1 f2 f3 lk BX hb5 hP5 B9 B10
           by_cases hn : t.n ≤ b.seen false
           ·have hN := hst.1 hn
            go_quiet (fail)
            go_wp2_with fail
            go_roundw
            case rel => exact ⟨m + 1, by omega, by go_num, by rw [hN.1], by rw [hN.2], below_drewN hbn _⟩
            case measure => simp [intOf]; omega
           ·by_cases hk3 : t.k = 3
            ·have hN := hst.2.1 hn hk3
             go_quiet (fail)
             go_wp2_with fail
             go_roundw
             case rel => exact ⟨m + 1, by omega, by go_num, by rw [hN.1], by rw [hN.2]; congr 1; omega, below_drewN hbn _⟩
             case measure => simp [intOf]; omega
            ·have hN := hst.2.2 hn hk3
             go_quiet (fail)
             go_wp2_with fail
             go_roundw
             case rel => exact ⟨m + 1, by omega, by go_num, by rw [hN.1]; congr 1; omega, by rw [hN.2], below_drewN hbn _⟩
             case measure => simp [intOf]; omega
          ·obtain rfl : m = (b.snd true).kept.length := by omega
           have hge : ¬ (((b.snd true).kept.length : Int) < (b.snd true).kept.length) := by omega
           rw [List.take_length]
           go_wp2_with fail
           go_roundw
           case rel => exact ⟨1 + 1, _, _, by omega, by go_num, rfl, rfl, wv_two hw0 hv0, hbX⟩
           case measure => simp [intOf]
       ·obtain rfl : k = 2 := by omega
        obtain ⟨hw0, hv0⟩ := hwv.two rfl
        obtain ⟨-, -, -, -, B4, -⟩ := bko_cells BR.box
        rw [e4.out] at B4
        generalize wr = R at *
        go_upto_region 35 with fail
        clear B4
        go_loopw [111, 18] (fun i dv X => ∃ m : Nat, m ≤ b.auths.length ∧ i = .int .i64 m ∧ dv = .int .i64 (sumOn Au.Au.dis (b.auths.take m)) ∧ Below Z.heap.size Z X) (fun i _ _ => b.auths.length - (intOf i).toNat)
        case atStart => exact ⟨0, Nat.zero_le _, rfl, by simp [sumOn], hbr⟩
        case round =>
         clear hbr BR
         obtain ⟨m, hm, rfl, rfl, hbX⟩ := hrel
         have BX := BW.below hbX
         have hds := dis_small (fun x hx => (I.out.held.auths x hx).1) m hm
         by_cases hml : m < b.auths.length
         ·have hml' : (m : Int) < b.auths.length := by omega
          obtain ⟨a7, c7, e7, l7⟩ := BX.sh.auths.lies
          rw [e4.out] at e7
          injection e7 with q1 _ q2
          subst q1 q2
          obtain ⟨z, off, rfl, zlt, f0, f1, f2, f3, f4, f5, f6, f7⟩ := auth_cells l7 hml
          have hst := dis_take hml
          have hr := (I.out.held.auths _ (getD_mem' zA hml)).1
          have hrd : 0 ≤ (b.auths.getD m zA).dis ∧ (b.auths.getD m zA).dis ≤ 1000000 := by unfold Au.Rng at hr; omega
          clear hr
          generalize b.auths.getD m zA = x at *
          obtain ⟨x1, x2, x3, x4, x5, x6, x7, x8⟩ := x
          dsimp only at f0 f1 f2 f3 f4 f5 f6 f7 hst hrd
          have hb5 := below_alloc wr (.cells #[.int .i64 x1, .int .i64 x2, .int .i64 x3, .int .i64 x4, .int .i64 x5, .int .i64 x6, .int .i64 x7, .bool x8] 66)
          have hP5 : (wr.alloc (.cells #[.int .i64 x1, .int .i64 x2, .int .i64 x3, .int .i64 x4, .int .i64 x5, .int .i64 x6, .int .i64 x7, .bool x8] 66)).heap[wr.heap.size]? = some (.cells #[.int .i64 x1, .int .i64 x2, .int .i64 x3, .int .i64 x4, .int .i64 x5, .int .i64 x6, .int .i64 x7, .bool x8] 66) := heap_alloc_at _ _ _ rfl
          have hbn := hbX.trans (hb5.mono hbX.size)
          replace hst := hid hst
          go_upto_region 37 with fail
          generalize wr.alloc (.cells #[.int .i64 x1, .int .i64 x2, .int .i64 x3, .int .i64 x4, .int .i64 x5, .int .i64 x6, .int .i64 x7, .bool x8] 66) = Y at *
          obtain ⟨-, -, -, -, -, p5, -⟩ := pero_cells hP5
          clear f0 f1 f2 f3 f4 f5 f6 f7 l7 BX hb5 hP5
          go_wp2_with fail
          go_roundw
          case rel => exact ⟨m + 1, by omega, by go_num, by rw [hst.out], hbn⟩
          case measure => simp [intOf]; omega
         ·obtain rfl : m = b.auths.length := by omega
          have hge : ¬ ((b.auths.length : Int) < b.auths.length) := by omega
          rw [List.take_length] at hds ⊢
          have g1 := I.out.books.acc1
          have g2 := I.out.books.acc2
          unfold disputed at g2
          rw [← hw0] at g1
          rw [← hv0] at g2
          have hG1 := hG 1
          have hG2 := hG 2
          rw [g1] at hG1
          rw [g2] at hG2
          have hkw := tr_small (I.out.sent.right false) (b.seen true) _ (Nat.le_refl _)
          have hkv := tr_small (I.out.sent.right true) (b.seen false) _ (Nat.le_refl _)
          have hk0 := (I.out.sent.right false).few
          have hk1 := (I.out.sent.right true).few
          rw [List.take_length] at hkw hkv
          have hVb : 0 ≤ V0 ∧ V0 ≤ 80000000 := by rw [hv0]; unfold onBack; omega
          clear hkw hkv g1 g2 hw0 hv0 hwv
          generalize sumOn Au.Au.dis b.auths = D at *
          obtain ⟨-, -, -, -, -, -, -, -, -, -, -, -, -, -, -, -, -, -, B18⟩ := bko_cells BX.box
          rw [eb.out] at B18
          go_wp2_with fail
          refine (hG1 _ hbX).mono ?_
          rintro _ Y1 ⟨rfl, hb1⟩
          have hbY := hbX.trans (hb1.mono hbX.size)
          obtain ⟨-, -, -, -, -, -, -, -, -, -, -, -, -, -, -, -, -, -, B18'⟩ := bko_cells (BW.below hbY).box
          rw [eb.out] at B18'
          clear B18
          go_wp2_with fail
          refine (hG2 _ hbY).mono ?_
          rintro _ Y2 ⟨rfl, hb2⟩
          have hbf := (BW.below (hbY.trans (hb2.mono hbY.size))).bel
          go_wp2_with fail
          exact bodyPost_ret (results_tmp Tryz.results4 _ _ _) rfl ⟨by simp, hbf⟩
open Go.Proofs.YtofcnebekmjdoaaGreatDoor
theorem log_len (b : Bank) (l : List Dd) : (playL b l).2.length = l.length := by
 have := congrArg List.length (playL_log b l)
 rwa [List.length_map] at this
theorem told_at (b : Bank) (l : List Dd) {i : Nat} (hi : i < l.length) (h0 : (l.getD i zD).id ≠ 0) : told (l.getD i zD).id (playL b l).2 = some (((playL b l).2.map (·.2)).getD i (0, 0)) := by
 have hi' : i < (playL b l).2.length := by rw [log_len]; exact hi
 have h1 : ((playL b l).2[i]).1 = l.getD i zD := by
  have : ((playL b l).2.map (·.1))[i]? = l[i]? := by rw [playL_log]
  rw [List.getElem?_map, List.getElem?_eq_getElem hi', List.getElem?_eq_getElem hi] at this
  simpa [List.getD, hi] using this
 have := first_playL b l ((playL b l).2[i]) (List.getElem_mem hi') (by rw [h1]; exact h0)
 rw [h1] at this
 rw [this]
 simp [List.getD, hi']
structure Sd (m all : List Dd) : Prop where
 ids : ∀ j, j < m.length → (m.getD j zD).id = (j : Int) + 1
 like : ∀ b, Alike (playL b m) (playL b all)
 mem : ∀ i, i < all.length → ∃ j, j < m.length ∧ all.getD i zD = m.getD j zD
theorem getD_snoc {l : List Dd} {d : Dd} {i : Nat} : (l ++ [d]).getD i zD = if i < l.length then l.getD i zD else if i = l.length then d else zD := by
 by_cases h : i < l.length
 ·rw [if_pos h, List.getD_eq_getElem?_getD, List.getElem?_append_left h, List.getD_eq_getElem?_getD]
 ·rw [if_neg h]
  by_cases h2 : i = l.length
  ·rw [if_pos h2, h2]; simp [List.getD]
  ·rw [if_neg h2]
   have : (l ++ [d])[i]? = none := by rw [List.getElem?_eq_none_iff]; simp; omega
   simp [List.getD, this]
theorem Sd.again {m all : List Dd} (S : Sd m all) {k : Nat} (hk : k < m.length) : Sd m (all ++ [m.getD k zD]) := by
 have h0 : (m.getD k zD).id ≠ 0 := by rw [S.ids k hk]; omega
 refine ⟨S.ids, fun b => ?_, fun i hi => ?_⟩
 ·rw [playL_snoc]
  refine (S.like b).again h0 (a := ((playL b m).2.map (·.2)).getD k (0, 0)) ?_
  rw [← (S.like b).told _ h0]
  exact told_at b m hk h0
 ·rw [List.length_append, List.length_singleton] at hi
  rw [getD_snoc]
  split
  ·rename_i h; exact S.mem i h
  ·rw [if_pos (by omega)]; exact ⟨k, hk, rfl⟩
theorem Sd.tell {m all : List Dd} (S : Sd m all) (b : Bank) {i : Nat} (hi : i < all.length) : ∃ j, j < m.length ∧ (all.getD i zD).id = (j : Int) + 1 ∧ ((playL b all).2.map (·.2)).getD i (0, 0) = ((playL b m).2.map (·.2)).getD j (0, 0) := by
 obtain ⟨j, h1, h2⟩ := S.mem i hi
 have h0 : (m.getD j zD).id ≠ 0 := by rw [S.ids j h1]; omega
 refine ⟨j, h1, by rw [h2]; exact S.ids j h1, ?_⟩
 have e1 := told_at b all hi (by rw [h2]; exact h0)
 have e2 := told_at b m h1 h0
 rw [h2, ← (S.like b).told _ h0, e2] at e1
 exact (Option.some.inj e1).symm
end Go.Proofs.YtofcnebekmjdoaaGreatDoor.Bn
