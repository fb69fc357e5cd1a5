import Derived.Test.YtofcnebekmjdoaaGreatDoorLDownad
set_option maxHeartbeats 4000000
set_option maxRecDepth 100000
namespace Go.Proofs.YtofcnebekmjdoaaGreatDoor.Bn
open Go.RowKit Go.Proofs.YtofcnebekmjdoaaGreatDoor.Gn Go.Maps
theorem playR_top {cap : Int} (hc : 0 ≤ cap ∧ cap ≤ 1000000) {l : List Dd} (h0 : ∀ d ∈ l, d.id = 0) (hl : l.length ≤ 150) : playR psT 2 cap l = (run (topS cap) l, ansL (topS cap) l, (0, 0)) := by
 have hE : setErr psT 2 cap = (0, 0) := by
  unfold setErr
  rw [if_neg (by decide), if_neg (by omega)]
  kernel_rfl
 unfold playR
 rw [hE, if_neg (by simp), if_neg (by omega), ← play_run0 _ _ h0, ← play_ans _ _ h0]
 rfl
theorem run_lens {b : Bank} (I : Inv b) (l : List Dd) : (run b l).cards.length = b.cards.length ∧ (run b l).due.length = b.due.length := by
 induction l generalizing b with
 | nil => exact ⟨rfl, rfl⟩
 | cons d r ih =>
  rw [run_cons]
  have A := do_accts (d := d) I
  have I' : Inv (doB b d).1 := run_inv I [d]
  exact ⟨(ih I').1.trans A.cards, (ih I').2.trans A.due⟩
theorem card_at {W : World} {b : Bank} {v : Vs} {cs : List CV} {ds : List DV} (SH : Shows W b v cs ds) {n k : Nat} (hn : b.cards.length = n) (hk : k < n) :
  ∃ (z o c : Nat) (x : CV), x.c = b.cards.getD k zeroC ∧ v.c = .slice (some ⟨z, o, none⟩) n c ∧ (∀ j u, (kC.cells x)[j]? = some u → W.cell? ⟨z, o + k * 6 + j, none⟩ = some u) := by
 have hcs := SH.csv
 have hlen : cs.length = n := by rw [← hn, ← hcs, List.length_map]
 obtain ⟨a, c, h1, l1⟩ := SH.cards.lies
 obtain ⟨z, o, rfl, -, hf⟩ := l1.elem (i := k) (x := cs.getD k zCV) (by simp [List.getD, show k < cs.length by omega])
 refine ⟨z, o, c, cs.getD k zCV, ?_, by rw [h1, hlen], hf⟩
 rw [← hcs]
 simp [List.getD, show k < cs.length by omega]
theorem small_three {x y z : Int} (h : smallB [x, y, z] = true) : 1 ≤ x ∧ x ≤ 100000 ∧ 1 ≤ y ∧ y ≤ 100000 ∧ 1 ≤ z ∧ z ≤ 100000 := by
 unfold smallB at h
 simp at h
 omega
open Go.Proofs.YtofcnebekmjdoaaGreatDoor
def dDown : Dd := ⟨0, 8, 0, 0, 0, 0⟩
def dUp : Dd := ⟨0, 9, 0, 0, 0, 0⟩
structure Gone (b : Bank) (limit u has : Int) (adv : List St.Ad) : Prop where
 inv : Inv b
 down : b.down = true
 cards : b.cards.length = 2
 due : b.due.length = 2
 auths : b.auths = []
 stand : b.stand = ⟨limit, [u, 0], adv⟩
 time : b.time = 0
 cb : cbal 0 b = has
 kept : ∀ i, (b.snd i).kept = []
theorem gone_ask {b : Bank} {limit u has s : Int} {adv : List St.Ad} (G : Gone b limit u has adv) (hl : adv.length ≤ 5) (hs : 1 ≤ s ∧ s ≤ 100000) :
  (limit < u + s → doB b (dAsk 0 0 s) = (b, 12, 0)) ∧ (u + s ≤ limit → (doB b (dAsk 0 0 s)).2.1 = 0 ∧ Gone (doB b (dAsk 0 0 s)).1 limit (u + s) has (adv ++ [⟨0, 0, s, 0⟩])) := by
 have hw := G.inv.held.stand.wrong
 rw [G.stand] at hw
 have e0 : doB b (dAsk 0 0 s) = askDown b (dAsk 0 0 s) := by
  unfold doB dAsk
  simp only [if_neg (show ¬ ((2 : Int) = 1) by decide), if_true]
  unfold askB
  rw [if_neg (by rw [G.cards, G.due]; dsimp only; omega), if_pos G.down]
 have hfit : St.Fits ⟨0, 0, s, 0⟩ (⟨limit, [u, 0], adv⟩ : St.Sd).used.length := by unfold St.Fits; dsimp only; simp; omega
 have ha : advOf b (dAsk 0 0 s) = ⟨0, 0, s, 0⟩ := by unfold advOf; rw [G.time]; rfl
 have h20 : (⟨limit, [u, 0], adv⟩ : St.Sd).adv.length ≠ 20 := by dsimp only; omega
 constructor
 ·intro q
  have hg := St.give_funds (s := ⟨limit, [u, 0], adv⟩) (a := ⟨0, 0, s, 0⟩) hw h20 hfit (by show limit < u + s; exact q)
  rw [e0]
  unfold askDown
  rw [ha, G.stand, hg]
  rfl
 ·intro q
  have hg := St.give_ok (s := ⟨limit, [u, 0], adv⟩) (a := ⟨0, 0, s, 0⟩) hw h20 hfit (by show ¬ limit < u + s; omega)
  have I2 := do_inv (d := dAsk 0 0 s) G.inv
  have c2 := do_cbal (d := dAsk 0 0 s) G.inv 0 (by rw [G.cards]; decide)
  rw [loads_no (by show (2 : Int) ≠ 1; decide), G.cb] at c2
  have e1 : doB b (dAsk 0 0 s) = ({ b with stand := ⟨limit, [u + s, 0], adv ++ [⟨0, 0, s, 0⟩]⟩ }, 0, ((b.auths.length + adv.length : Nat) : Int)) := by
   rw [e0]
   unfold askDown
   rw [ha, G.stand, hg]
   simp only [ne_eq, not_true_eq_false, if_false]
   rw [if_neg (by rw [G.auths]; simp; omega)]
   rfl
  refine ⟨by rw [e1], I2, by rw [e1]; exact G.down, by rw [e1]; exact G.cards, by rw [e1]; exact G.due, by rw [e1]; exact G.auths, by rw [e1], by rw [e1]; exact G.time, by omega, by rw [e1]; exact G.kept⟩
theorem sum_zero_adv (L : List St.Ad) : sumOn (spentBy 0) (L.map advA) = 0 := by
 rw [sumOn_map]
 exact sumOn_zero fun x _ => by unfold spentBy advA; dsimp only; split <;> rfl
theorem late_none (L : List St.Ad) (h : ∀ x ∈ L, x.t = 0) : (L.map advA).map (fun a => Au.lateA a 0) = L.map advA := by
 rw [List.map_map]
 exact List.map_congr_left fun x hx => by
  show Au.lateA (advA x) 0 = advA x
  unfold Au.lateA advA
  rw [h x hx]
  rfl
theorem gone_up {b : Bank} {limit u has : Int} {adv : List St.Ad} (G : Gone b limit u has adv) (ht : ∀ x ∈ adv, x.t = 0) :
  (doB b dUp).2.1 = 0 ∧ (doB b dUp).1.down = false ∧ ((doB b dUp).1.cards.getD 0 zeroC).m = has ∧ ((doB b dUp).1.cards.getD 0 zeroC).h = sumOn (forceBy 0) adv := by
 have I2 := do_inv (d := dUp) G.inv
 have c2 := do_cbal (d := dUp) G.inv 0 (by rw [G.cards]; decide)
 have A2 := do_accts (d := dUp) G.inv
 rw [loads_no (by show (9 : Int) ≠ 1; decide), G.cb] at c2
 have e : doB b dUp = two (upB b) := by
  unfold doB dUp
  simp only []
  rw [if_neg (by decide), if_neg (by decide), if_neg (by decide), if_neg (by decide), if_neg (by decide), if_neg (by decide), if_neg (by decide), if_neg (by decide)]
  simp only [if_true]
 have eu : upB b = (shutB { b with cards := b.stand.adv.foldl forceL b.cards, auths := b.auths ++ b.stand.adv.map advA, down := false, stand := ⟨b.stand.cap, List.replicate b.cards.length 0, []⟩ }, 0) := by
  unfold upB
  rw [if_pos G.down]
 have ea : (doB b dUp).1.auths = adv.map advA := by
  rw [e, eu]
  show (b.auths ++ b.stand.adv.map advA).map (fun a => Au.lateA a b.time) = _
  rw [G.auths, G.stand, G.time, List.nil_append, late_none adv ht]
 have hk : ((doB b dUp).1.snd true).kept = [] := by rw [e, eu]; exact G.kept true
 have hh := I2.held.held 0 (by rw [A2.cards, G.cards]; decide)
 rw [ea, held_adv] at hh
 unfold cbal at c2
 rw [ea, sum_zero_adv, hk] at c2
 simp only [sumOn] at c2
 refine ⟨by rw [e, eu]; rfl, by rw [e, eu]; rfl, by omega, hh⟩
theorem down_start {limit has : Int} (hl : 0 ≤ limit ∧ limit ≤ 100000) (hh : 1 ≤ has ∧ has ≤ 100000) : (doB (topS limit) (dLoad 0 has)).2 = (0, 0) ∧ (doB (doB (topS limit) (dLoad 0 has)).1 dDown).2 = (0, 0) ∧ Gone (doB (doB (topS limit) (dLoad 0 has)).1 dDown).1 limit 0 has [] := by
 have I0 : Inv (topS limit) := top_inv (by omega)
 have B0 : Bound 0 (topS limit) := start_bound _ _ _
 have e1 := load_done (n := 0) (sum := has) I0 B0 (by decide) (by decide) (by show (0 : Int) < 2; decide) (by omega) (by show _ ≤ (0 : Int); decide)
 have I1 := do_inv (d := dLoad 0 has) I0
 have c1 := do_cbal (d := dLoad 0 has) I0 0 (by show 0 < 2; decide)
 have hlo : loads (topS limit) (dLoad 0 has) 0 = has := by
  unfold loads
  rw [e1, if_pos ⟨rfl, rfl, rfl⟩]; rfl
 rw [show cbal 0 (topS limit) = 0 from start_cbal _ _ _ _, hlo] at c1
 have x1 : (doB (topS limit) (dLoad 0 has)).1.down = false ∧ (doB (topS limit) (dLoad 0 has)).1.cards.length = 2 ∧ (doB (topS limit) (dLoad 0 has)).1.due.length = 2 ∧ (doB (topS limit) (dLoad 0 has)).1.auths = [] ∧ (doB (topS limit) (dLoad 0 has)).1.stand = ⟨limit, [0, 0], []⟩ ∧ (doB (topS limit) (dLoad 0 has)).1.time = 0 ∧ ∀ i, ((doB (topS limit) (dLoad 0 has)).1.snd i).kept = [] := by
  rw [e1]; exact ⟨rfl, rfl, rfl, rfl, rfl, rfl, fun _ => rfl⟩
 have e12 : (doB (topS limit) (dLoad 0 has)).2 = (0, 0) := by rw [e1]
 clear e1 hlo
 generalize doB (topS limit) (dLoad 0 has) = r1 at *
 generalize r1.1 = b1 at *
 obtain ⟨d1, l1, l2, a1, s1, t1, k1⟩ := x1
 have I2 := do_inv (d := dDown) I1
 have c2 := do_cbal (d := dDown) I1 0 (by rw [l1]; decide)
 rw [loads_no (by show (8 : Int) ≠ 1; decide), c1] at c2
 have e2 : doB b1 dDown = ({ b1 with down := true }, 0, 0) := by
  unfold doB dDown two downB
  simp only []
  rw [if_neg (by decide), if_neg (by decide), if_neg (by decide), if_neg (by decide), if_neg (by decide), if_neg (by decide), if_neg (by decide)]
  simp only [if_true]
  rw [if_neg (by rw [d1]; decide)]
 exact ⟨e12, by rw [e2], I2, by rw [e2], by rw [e2]; exact l1, by rw [e2]; exact l2, by rw [e2]; exact a1, by rw [e2]; exact s1, by rw [e2]; exact t1, by omega, by rw [e2]; exact k1⟩
def downL (has a b : Int) : List Dd := [dLoad 0 has, dDown, dAsk 0 0 a, dAsk 0 0 b, dUp]
def oneH (limit a : Int) : Int := if a ≤ limit then a else 0
def twoH (limit a b : Int) : Int := if oneH limit a + b ≤ limit then oneH limit a + b else oneH limit a
theorem down_plain {limit has a b : Int} (hl : 0 ≤ limit ∧ limit ≤ 100000) (hh : 1 ≤ has ∧ has ≤ 100000) (ha : 1 ≤ a ∧ a ≤ 100000) (hb : 1 ≤ b ∧ b ≤ 100000) :
  ∃ e1 e2 : An, ansL (topS limit) (downL has a b) = [(0, 0), (0, 0), e1, e2, (0, 0)] ∧ e1.1 = (if a ≤ limit then 0 else 12) ∧ e2.1 = (if oneH limit a + b ≤ limit then 0 else 12) ∧
   (run (topS limit) (downL has a b)).down = false ∧ ((run (topS limit) (downL has a b)).cards.getD 0 zeroC).m = has ∧ ((run (topS limit) (downL has a b)).cards.getD 0 zeroC).h = twoH limit a b := by
 obtain ⟨x1, x2, G2⟩ := down_start hl hh
 have e : ansL (topS limit) (downL has a b) = [(0, 0), (0, 0)] ++ ansL (doB (doB (topS limit) (dLoad 0 has)).1 dDown).1 [dAsk 0 0 a, dAsk 0 0 b, dUp] := by
  unfold downL
  simp only [ansL]
  rw [x1, x2]
  rfl
 have er : run (topS limit) (downL has a b) = run (doB (doB (topS limit) (dLoad 0 has)).1 dDown).1 [dAsk 0 0 a, dAsk 0 0 b, dUp] := rfl
 rw [e, er]
 clear e er x1 x2
 generalize (doB (doB (topS limit) (dLoad 0 has)).1 dDown).1 = b2 at *
 -- the first permission
 have s3 : ∃ adv : List St.Ad, adv.length ≤ 1 ∧ (∀ x ∈ adv, x.t = 0) ∧ sumOn (forceBy 0) adv = oneH limit a ∧ Gone (doB b2 (dAsk 0 0 a)).1 limit (oneH limit a) has adv ∧ (doB b2 (dAsk 0 0 a)).2.1 = (if a ≤ limit then 0 else 12) := by
  obtain ⟨f1, f2⟩ := gone_ask G2 (by decide) ha
  by_cases q : a ≤ limit
  ·obtain ⟨g1, g2⟩ := f2 (by omega)
   refine ⟨[⟨0, 0, a, 0⟩], by simp, by simp, ?_, ?_, by rw [if_pos q]; exact g1⟩
   ·rw [sumOn_one]; unfold oneH; rw [if_pos q]; rfl
   ·unfold oneH; rw [if_pos q]; rw [Int.zero_add, List.nil_append] at g2; exact g2
  ·have g1 := f1 (by omega)
   refine ⟨[], by simp, by simp, ?_, ?_, by rw [if_neg q, g1]⟩
   ·unfold oneH; rw [if_neg q]; rfl
   ·unfold oneH; rw [if_neg q, g1]; exact G2
 obtain ⟨adv1, l1, t1, m1, G3, r1⟩ := s3
 have s4 : ∃ adv : List St.Ad, (∀ x ∈ adv, x.t = 0) ∧ sumOn (forceBy 0) adv = twoH limit a b ∧ Gone (doB (doB b2 (dAsk 0 0 a)).1 (dAsk 0 0 b)).1 limit (twoH limit a b) has adv ∧ (doB (doB b2 (dAsk 0 0 a)).1 (dAsk 0 0 b)).2.1 = (if oneH limit a + b ≤ limit then 0 else 12) := by
  obtain ⟨f1, f2⟩ := gone_ask G3 (by omega) hb
  by_cases q : oneH limit a + b ≤ limit
  ·obtain ⟨g1, g2⟩ := f2 (by omega)
   refine ⟨adv1 ++ [⟨0, 0, b, 0⟩], ?_, ?_, ?_, by rw [if_pos q]; exact g1⟩
   ·intro x hx
    rcases List.mem_append.1 hx with hx | hx
    ·exact t1 x hx
    ·obtain rfl := List.mem_singleton.1 hx; rfl
   ·rw [sumOn_append, m1, sumOn_one]; unfold twoH; rw [if_pos q]; rfl
   ·unfold twoH; rw [if_pos q]; exact g2
  ·have g1 := f1 (by omega)
   refine ⟨adv1, t1, ?_, ?_, by rw [if_neg q, g1]⟩
   ·rw [m1]; unfold twoH; rw [if_neg q]
   ·unfold twoH; rw [if_neg q, g1]; exact G3
 obtain ⟨adv2, t2, m2, G4, r2⟩ := s4
 obtain ⟨u1, u2, u3, u4⟩ := gone_up G4 t2
 rw [m2] at u4
 have e5 : (doB (doB (doB b2 (dAsk 0 0 a)).1 (dAsk 0 0 b)).1 dUp).2.2 = 0 := by
  have : doB (doB (doB b2 (dAsk 0 0 a)).1 (dAsk 0 0 b)).1 dUp = two (upB (doB (doB b2 (dAsk 0 0 a)).1 (dAsk 0 0 b)).1) := rfl
  rw [this]; rfl
 exact ⟨(doB b2 (dAsk 0 0 a)).2, (doB (doB b2 (dAsk 0 0 a)).1 (dAsk 0 0 b)).2, by
  simp only [ansL, List.cons_append, List.nil_append]
  have : (doB (doB (doB b2 (dAsk 0 0 a)).1 (dAsk 0 0 b)).1 dUp).2 = (0, 0) := Prod.ext u1 e5
  rw [this], r1, r2, u2, u3, u4⟩
theorem twoH_le {limit a b : Int} (h : 0 ≤ limit) : twoH limit a b ≤ limit := by
 unfold twoH oneH
 repeat' split
 all_goals omega
theorem down_ids (has a b : Int) : ∀ d ∈ downL has a b, d.id = 0 := by
 intro d hd
 simp [downL, dLoad, dAsk, dDown, dUp] at hd
 rcases hd with rfl | rfl | rfl | rfl | rfl <;> rfl
def goodB (yes : Bool) (e : Int) : Bool := if yes = true then e == 0 else e == 12
theorem good_any (yes : Bool) (e : Int) (w : World) : Calls Tryz.prog 42 #[.bool yes, .int .i64 e] w fun r w' => r = .returned (.bool (goodB yes e)) ∧ w' = w := by
 go_enter Tryz.func42, Tryz.ntmps42
 cases yes with
 | true =>
  by_cases h : e = 0
  ·subst h
   go_wp2_with fail
   exact bodyPost_ret (results_tmp Tryz.results42 _ _ _) rfl ⟨rfl, rfl⟩
  ·go_wp2_with fail
   exact bodyPost_ret (results_tmp Tryz.results42 _ _ _) rfl ⟨by simp [goodB], rfl⟩
 | false =>
  by_cases h : e = 12
  ·subst h
   go_wp2_with fail
   exact bodyPost_ret (results_tmp Tryz.results42 _ _ _) rfl ⟨rfl, rfl⟩
  ·go_wp2_with fail
   exact bodyPost_ret (results_tmp Tryz.results42 _ _ _) rfl ⟨by simp [goodB], rfl⟩
theorem good_yes : goodB true 0 = true := rfl
theorem good_no : goodB false 12 = true := rfl
theorem down_facts {limit has a b : Int} (hl : 0 ≤ limit ∧ limit ≤ 100000) (hh : 1 ≤ has ∧ has ≤ 100000) (ha : 1 ≤ a ∧ a ≤ 100000) (hb' : 1 ≤ b ∧ b ≤ 100000) {W W' : World} {v : Vs} {cs : List CV} {ds : List DV} {va : Value} (SH : Shows W (run (topS limit) (downL has a b)) v cs ds) (AP : Ap kAn (fun _ => 0) W va (ansL (topS limit) (downL has a b)) 0) (hb : Below W.heap.size W W') :
  ∃ (z1 o1 c1 z3 o3 c3 : Nat) (x : CV), va = .slice (some ⟨z1, o1, none⟩) 5 c1 ∧ W'.cell? ⟨z1, o1 + 4, none⟩ = some (.int .i64 (if a ≤ limit then 0 else 12)) ∧ W'.cell? ⟨z1, o1 + 6, none⟩ = some (.int .i64 (if oneH limit a + b ≤ limit then 0 else 12)) ∧ v.c = .slice (some ⟨z3, o3, none⟩) 2 c3 ∧ (∀ j u, (kC.cells x)[j]? = some u → W'.cell? ⟨z3, o3 + j, none⟩ = some u) ∧ x.c.m = has ∧ x.c.h = twoH limit a b := by
 obtain ⟨e1, e2, p1, p2, p3, -, p5, p6⟩ := down_plain hl hh ha hb'
 have I : Inv (topS limit) := top_inv (by omega)
 have hlen := (run_lens I (downL has a b)).1
 rw [p1] at AP
 obtain ⟨a1, c1, h1', l1⟩ := AP.lies
 obtain ⟨z1, o1, rfl, -, f1⟩ := (l1.below hb).elem (i := 2) (x := e1) rfl
 obtain ⟨z1', o1', hq, -, f2⟩ := (l1.below hb).elem (i := 3) (x := e2) rfl
 cases hq
 obtain ⟨z3, o3, c3, x, hx, hv, f3⟩ := card_at (SH.below hb) (n := 2) (k := 0) (hlen.trans rfl) (by decide)
 refine ⟨z1, o1, c1, z3, o3, c3, x, h1', by rw [← p2]; exact f1 0 _ rfl, by rw [← p3]; exact f2 0 _ rfl, hv, fun j u hj => by simpa using f3 j u hj, by rw [hx]; exact p5, by rw [hx]; exact p6⟩
theorem down_any (limit has a b : Int) (w : World) (_ : -9223372036854775808 ≤ limit ∧ limit ≤ 9223372036854775807) (_ : -9223372036854775808 ≤ has ∧ has ≤ 9223372036854775807) (_ : -9223372036854775808 ≤ a ∧ a ≤ 9223372036854775807) (_ : -9223372036854775808 ≤ b ∧ b ≤ 9223372036854775807) (O : Oth w) :
    Calls Tryz.prog 14 #[.int .i64 limit, .int .i64 has, .int .i64 a, .int .i64 b] w fun e w' => e = .returned (.bool true) ∧ Below w.heap.size w w' := by
  have hA := talive_any w O
  have hS := fun (X : World) => tsetup_any limit X
  have hD := fun (k n s : Int) (X : World) => tdo_any k n s X
  unfold ddv at hD
  go_enter Tryz.func14, Tryz.ntmps14
  go_upto_region 1 with fail
  go_upto_region 2 with fail
  refine hA.mono ?_
  rintro _ w1 ⟨rfl, hb1⟩
  clear hA
  have e2 := below_alloc w1 (.cells #[.int .i64 has, .int .i64 a, .int .i64 b] 3)
  have hl2 : Gn.Lies kI (w1.alloc (.cells #[.int .i64 has, .int .i64 a, .int .i64 b] 3)) (some ⟨w1.heap.size, 0, none⟩) 3 [has, a, b] := lies_blk (K := kI) (L := [has, a, b]) (heap_alloc_at _ _ _ rfl) rfl (by simp [maxLen]) _
  have hSm := small_any _ _ _ _ hl2
  have hb2 := hb1.trans (e2.mono hb1.size)
  have hl2' : [has, a, b].length = 3 := rfl
  rw [hl2'] at hSm
  have hsm := @small_three has a b
  generalize smallB [has, a, b] = sm at *
  clear e2 hl2 hl2'
  go_upto_region 3 with fail
  go_upto_region 4 with fail
  refine hSm.mono ?_
  rintro _ w3 ⟨rfl, hb3⟩
  have hbw : Below w.heap.size w w3 := hb2.trans (hb3.mono hb2.size)
  clear hSm hb1 hb2 hb3
  cases sm with
  | false =>
    clear hS hD
    go_wp2_with fail
    exact bodyPost_ret (results_tmp Tryz.results14 _ _ _) rfl ⟨rfl, hbw⟩
  | true =>
    have hsm' := hsm rfl
    clear hsm
    by_cases c2 : limit < 0
    · clear hS hD
      go_wp2_with fail
      exact bodyPost_ret (results_tmp Tryz.results14 _ _ _) rfl ⟨rfl, hbw⟩
    by_cases c3 : 100000 < limit
    · clear hS hD
      go_wp2_with fail
      exact bodyPost_ret (results_tmp Tryz.results14 _ _ _) rfl ⟨rfl, hbw⟩
    have hdn : (run (topS limit) (downL has a b)).down = false := by
      obtain ⟨_, _, -, -, -, h, -, -⟩ := down_plain (limit := limit) (has := has) (a := a) (b := b) (by omega) (by omega) (by omega) (by omega)
      exact h
    have hP := fun (W : World) (u : Option Addr) (c : Nat) (al : Option Addr) (h : Gn.Lies kPa W u c psT) (hd : Gn.Lies kDd W al 5 (downL has a b)) (hO : Oth W) => play_any psT u c 2 limit al 5 (downL has a b) W h hd (fit0 (down_ids has a b)) hO
    have hF := fun (W W' : World) (v : Vs) (cs : List CV) (ds : List DV) (va : Value) SH AP hb => down_facts (limit := limit) (has := has) (a := a) (b := b) (W := W) (W' := W') (v := v) (cs := cs) (ds := ds) (va := va) (by omega) (by omega) (by omega) (by omega) SH AP hb
    rw [playR_top (by omega) (down_ids has a b) (show 5 ≤ 150 by decide), show psT.length = 2 from rfl, show (downL has a b).length = 5 from rfl] at hP
    unfold Plays at hP
    dsimp only at hP
    generalize run (topS limit) (downL has a b) = k at *
    generalize ansL (topS limit) (downL has a b) = A at *
    simp only [bkv_cells] at hP
    unfold suv at hS hP
    unfold Dy.fv at hP
    go_upto_region 5 with fail
    go_upto_region 6 with fail
    refine (hD _ _ _ _).mono ?_
    rintro _ w5 ⟨rfl, hb5⟩
    go_upto_region 6 with fail
    refine (hD _ _ _ _).mono ?_
    rintro _ w6 ⟨rfl, hb6⟩
    go_upto_region 6 with fail
    refine (hD _ _ _ _).mono ?_
    rintro _ w7 ⟨rfl, hb7⟩
    have hb37 := (hb5.trans (hb6.mono hb5.size)).trans (hb7.mono (Nat.le_trans hb5.size hb6.size))
    have e8 := below_alloc w7 (.cells #[.int .i64 0, .int .i64 1, .int .i64 0, .int .i64 0, .int .i64 0, .int .i64 has, .int .i64 0, .int .i64 8, .int .i64 0, .int .i64 0, .int .i64 0, .int .i64 0, .int .i64 0, .int .i64 2, .int .i64 0, .int .i64 0, .int .i64 0, .int .i64 a, .int .i64 0, .int .i64 2, .int .i64 0, .int .i64 0, .int .i64 0, .int .i64 b, .int .i64 0, .int .i64 9, .int .i64 0, .int .i64 0, .int .i64 0, .int .i64 0] 74)
    have hd8 : Gn.Lies kDd (w7.alloc (.cells #[.int .i64 0, .int .i64 1, .int .i64 0, .int .i64 0, .int .i64 0, .int .i64 has, .int .i64 0, .int .i64 8, .int .i64 0, .int .i64 0, .int .i64 0, .int .i64 0, .int .i64 0, .int .i64 2, .int .i64 0, .int .i64 0, .int .i64 0, .int .i64 a, .int .i64 0, .int .i64 2, .int .i64 0, .int .i64 0, .int .i64 0, .int .i64 b, .int .i64 0, .int .i64 9, .int .i64 0, .int .i64 0, .int .i64 0, .int .i64 0] 74)) (some ⟨w7.heap.size, 0, none⟩) 5 (downL has a b) := lies_blk (K := kDd) (L := downL has a b) (heap_alloc_at _ _ _ rfl) rfl (by simp [downL, maxLen]) _
    have hbw7 := hbw.trans (hb37.mono hbw.size)
    have hbw8 := hbw7.trans (e8.mono hbw7.size)
    clear hb5 hb6 hb7 hb37 hbw hbw7 e8 hD
    go_upto_region 6 with fail
    generalize w7.alloc (.cells #[.int .i64 0, .int .i64 1, .int .i64 0, .int .i64 0, .int .i64 0, .int .i64 has, .int .i64 0, .int .i64 8, .int .i64 0, .int .i64 0, .int .i64 0, .int .i64 0, .int .i64 0, .int .i64 2, .int .i64 0, .int .i64 0, .int .i64 0, .int .i64 a, .int .i64 0, .int .i64 2, .int .i64 0, .int .i64 0, .int .i64 0, .int .i64 b, .int .i64 0, .int .i64 9, .int .i64 0, .int .i64 0, .int .i64 0, .int .i64 0] 74) = w8 at *
    go_upto_region 7 with fail
    refine (hS _).mono ?_
    rintro _ w9 ⟨za, c, rfl, hl, hb9, -⟩
    have hbw9 := hbw8.trans (hb9.mono hbw8.size)
    have hP1 := hP _ _ _ _ hl (hd8.below hb9) (O.keep (hbw9.block 0 O.lt))
    clear hP hS hl hd8 hb9 hbw8 O
    go_upto_region 7 with (first
      | (go_at_call 18; refine hP1.mono ?_; rintro _ w2 ⟨v, cs, ds, va, rfl, SH, AP, hb3⟩; obtain ⟨G1, G2, G3, G4, G5⟩ := got_box w2 #[.int .i64 0, .bool false, .slice none 0 0, .slice none 0 0, .slice none 0 0, .int .i64 0, .slice none 0 0, .int .i64 0, .slice none 0 0, .int .i64 0, .int .i64 0, .slice none 0 0, .slice none 0 0, .int .i64 0, .slice none 0 0, .slice none 0 0, .slice none 0 0, .slice none 0 0, .slice none 0 0] rfl k v (0, 0); have hF1 := hF _ _ _ _ _ _ SH AP G5; replace G3 := bko_cells G3; obtain ⟨t0, t1, t2, t3⟩ := fo_cells G2; obtain ⟨y0, y1, y2, y3⟩ := fo_cells G4; have hone := hid SH.one; have hinf : Hid ((Tryz.prog.info? 43).map (·.size) = some (cellsK k v).size) := hid infoK; have hb4 : Below w.heap.size w _ := (hbw9.trans (hb3.mono hbw9.size)).trans (G5.mono ((hbw9.trans (hb3.mono hbw9.size)).size)); dsimp only at t0 t1 y0 y1 G3 hb4 hF1; clear G4 G5 SH AP G2 hP1 hF hbw9; generalize cellsK k v = cc at *)
      | (refine wpList_store_mid rfl 43 _ _ rfl w2.heap.size 0 cc rfl rfl G1 hinf.out hone.out ?_))
    generalize ((((w2.alloc (.cells #[.int .i64 0, .bool false, .slice none 0 0, .slice none 0 0, .slice none 0 0, .int .i64 0, .slice none 0 0, .int .i64 0, .slice none 0 0, .int .i64 0, .int .i64 0, .slice none 0 0, .slice none 0 0, .int .i64 0, .slice none 0 0, .slice none 0 0, .slice none 0 0, .slice none 0 0, .slice none 0 0] 43)).alloc (.cells #[.int .i64 0, .int .i64 0] 47)).setCells w2.heap.size 0 cc.toList).setCell ⟨w2.heap.size + 1, 0, none⟩ (.int .i64 0)).setCell ⟨w2.heap.size + 1, 1, none⟩ (.int .i64 0) = Z at *
    obtain ⟨-, q1, q2, -⟩ := G3
    obtain ⟨z1, o1, c1, z3, o3, c3', x, rfl, f1, f2, hvc, fx, k1, k2⟩ := hF1
    rw [hvc] at q2
    rw [hdn] at q1
    have x0 := fx 0 _ rfl
    have x1 := fx 1 _ rfl
    have x2 := fx 2 _ rfl
    have x3 := fx 3 _ rfl
    have x4 := fx 4 _ rfl
    have x5 := fx 5 _ rfl
    simp only [Nat.add_zero] at x0
    have hle := twoH_le (limit := limit) (a := a) (b := b) (by omega)
    have hge : 0 ≤ twoH limit a b := by unfold twoH oneH; repeat' split
                                        all_goals omega
    have hFr := fun Y => free_any x.c x.a x.cap Y (by rw [k1]; omega) (by rw [k1]; omega) (by rw [k2]; omega) (by rw [k2]; omega)
    unfold cv at hFr
    rw [k1, k2] at hFr
    rw [k1] at x0
    rw [k2] at x1
    have hG := fun (y : Bool) (e : Int) (X : World) => good_any y e X
    clear hvc G1 t0 t1 t2 t3 hb3 fx hone hinf hdn k1 k2 y1 y2 y3
    by_cases one : a ≤ limit
    · have h1 : oneH limit a = a := by unfold oneH; rw [if_pos one]
      unfold twoH at x1 hFr hle hge
      rw [if_pos one] at f1
      rw [h1] at f2 x1 hFr hle hge
      by_cases tw : a + b ≤ limit
      · rw [if_pos tw] at f2 x1 hFr hle hge
        clear h1
        go_upto_region 17 with fail
        go_wp2_with (go_at_call 42; refine (hG _ _ _).mono ?_; rintro _ _ ⟨rfl, rfl⟩; first | rw [good_yes] | rw [good_no])
        refine (hFr _).mono ?_
        rintro _ w12 ⟨rfl, hb12⟩
        have q1' := (hb12.cell (cell_lt q1)).trans q1
        have q2' := (hb12.cell (cell_lt q2)).trans q2
        have x0' := (hb12.cell (cell_lt x0)).trans x0
        have x1' := (hb12.cell (cell_lt x1)).trans x1
        have x2' := (hb12.cell (cell_lt x2)).trans x2
        have x3' := (hb12.cell (cell_lt x3)).trans x3
        have x4' := (hb12.cell (cell_lt x4)).trans x4
        have x5' := (hb12.cell (cell_lt x5)).trans x5
        have hb14 := hb4.trans (hb12.mono hb4.size)
        clear q1 q2 x0 x1 x2 x3 x4 x5 hb4 hb12 f1 f2 y0
        go_wp2_with fail
        refine (hFr _).mono ?_
        rintro _ w15 ⟨rfl, hb15⟩
        have q1 := (hb15.cell (cell_lt q1')).trans q1'
        have hbf := hb14.trans (hb15.mono hb14.size)
        clear q1' q2' x0' x1' x2' x3' x4' x5' hb14 hb15 hFr hG
        go_wp2_with fail
        exact bodyPost_ret (results_tmp Tryz.results14 _ _ _) rfl ⟨by simp; try omega, hbf⟩
      · rw [if_neg tw] at f2 x1 hFr hle hge
        clear h1
        go_upto_region 17 with fail
        go_wp2_with (go_at_call 42; refine (hG _ _ _).mono ?_; rintro _ _ ⟨rfl, rfl⟩; first | rw [good_yes] | rw [good_no])
        refine (hFr _).mono ?_
        rintro _ w12 ⟨rfl, hb12⟩
        have q1' := (hb12.cell (cell_lt q1)).trans q1
        have q2' := (hb12.cell (cell_lt q2)).trans q2
        have x0' := (hb12.cell (cell_lt x0)).trans x0
        have x1' := (hb12.cell (cell_lt x1)).trans x1
        have x2' := (hb12.cell (cell_lt x2)).trans x2
        have x3' := (hb12.cell (cell_lt x3)).trans x3
        have x4' := (hb12.cell (cell_lt x4)).trans x4
        have x5' := (hb12.cell (cell_lt x5)).trans x5
        have hb14 := hb4.trans (hb12.mono hb4.size)
        clear q1 q2 x0 x1 x2 x3 x4 x5 hb4 hb12 f1 f2 y0
        go_wp2_with fail
        refine (hFr _).mono ?_
        rintro _ w15 ⟨rfl, hb15⟩
        have q1 := (hb15.cell (cell_lt q1')).trans q1'
        have hbf := hb14.trans (hb15.mono hb14.size)
        clear q1' q2' x0' x1' x2' x3' x4' x5' hb14 hb15 hFr hG
        go_wp2_with fail
        exact bodyPost_ret (results_tmp Tryz.results14 _ _ _) rfl ⟨by simp; try omega, hbf⟩
    · have h1 : oneH limit a = 0 := by unfold oneH; rw [if_neg one]
      unfold twoH at x1 hFr hle hge
      rw [if_neg one] at f1
      rw [h1, Int.zero_add] at f2 x1 hFr hle hge
      by_cases tw : b ≤ limit
      · rw [if_pos tw] at f2 x1 hFr hle hge
        clear h1
        go_upto_region 17 with fail
        go_wp2_with (go_at_call 42; refine (hG _ _ _).mono ?_; rintro _ _ ⟨rfl, rfl⟩; first | rw [good_yes] | rw [good_no])
        refine (hFr _).mono ?_
        rintro _ w12 ⟨rfl, hb12⟩
        have q1' := (hb12.cell (cell_lt q1)).trans q1
        have q2' := (hb12.cell (cell_lt q2)).trans q2
        have x0' := (hb12.cell (cell_lt x0)).trans x0
        have x1' := (hb12.cell (cell_lt x1)).trans x1
        have x2' := (hb12.cell (cell_lt x2)).trans x2
        have x3' := (hb12.cell (cell_lt x3)).trans x3
        have x4' := (hb12.cell (cell_lt x4)).trans x4
        have x5' := (hb12.cell (cell_lt x5)).trans x5
        have hb14 := hb4.trans (hb12.mono hb4.size)
        clear q1 q2 x0 x1 x2 x3 x4 x5 hb4 hb12 f1 f2 y0
        go_wp2_with fail
        refine (hFr _).mono ?_
        rintro _ w15 ⟨rfl, hb15⟩
        have q1 := (hb15.cell (cell_lt q1')).trans q1'
        have hbf := hb14.trans (hb15.mono hb14.size)
        clear q1' q2' x0' x1' x2' x3' x4' x5' hb14 hb15 hFr hG
        go_wp2_with fail
        exact bodyPost_ret (results_tmp Tryz.results14 _ _ _) rfl ⟨by simp; try omega, hbf⟩
      · rw [if_neg tw] at f2 x1 hFr hle hge
        clear h1
        go_upto_region 17 with fail
        go_wp2_with (go_at_call 42; refine (hG _ _ _).mono ?_; rintro _ _ ⟨rfl, rfl⟩; first | rw [good_yes] | rw [good_no])
        refine (hFr _).mono ?_
        rintro _ w12 ⟨rfl, hb12⟩
        have q1' := (hb12.cell (cell_lt q1)).trans q1
        have q2' := (hb12.cell (cell_lt q2)).trans q2
        have x0' := (hb12.cell (cell_lt x0)).trans x0
        have x1' := (hb12.cell (cell_lt x1)).trans x1
        have x2' := (hb12.cell (cell_lt x2)).trans x2
        have x3' := (hb12.cell (cell_lt x3)).trans x3
        have x4' := (hb12.cell (cell_lt x4)).trans x4
        have x5' := (hb12.cell (cell_lt x5)).trans x5
        have hb14 := hb4.trans (hb12.mono hb4.size)
        clear q1 q2 x0 x1 x2 x3 x4 x5 hb4 hb12 f1 f2 y0
        go_wp2_with fail
        refine (hFr _).mono ?_
        rintro _ w15 ⟨rfl, hb15⟩
        have q1 := (hb15.cell (cell_lt q1')).trans q1'
        have hbf := hb14.trans (hb15.mono hb14.size)
        clear q1' q2' x0' x1' x2' x3' x4' x5' hb14 hb15 hFr hG
        go_wp2_with fail
        exact bodyPost_ret (results_tmp Tryz.results14 _ _ _) rfl ⟨by simp; try omega, hbf⟩
open Go.Proofs.YtofcnebekmjdoaaGreatDoor
def given (count : Int) (i : Nat) : Nat := min i count.toNat
open Go.Proofs.YtofcnebekmjdoaaGreatDoor
def dayD (n : Int) : Dd := if 0 < n then dMove 2 0 n else dMove 5 0 (-(max n (-1000000)))
theorem Got.more {b : Bank} {K M K2 M2 : Nat} {T c s has : Int} {a : Au.Au} (G : Got b K M T c s has a) (hK : K ≤ K2) (hM : M ≤ M2) : Got b K2 M2 T c s has a :=
 ⟨G.inv, G.bound.mono hK, G.down, G.time, G.auths, G.cards, G.due, G.cb, G.ob, G.db, G.out, G.way, fun i => Nat.le_trans (G.kept i) hM, fun i => by have := G.sent i; omega, Nat.le_trans G.today hK, G.card, G.shop, G.c01, G.s01⟩
theorem move_no {b : Bank} {mv n : Int} (hd : b.down = false) (ha : b.auths.length = 1) (he : Au.mvErr (b.auth 0) mv n ≠ 0) : (doB b (dMove mv 0 n)).1 = b := by
 refine doB_refused b _ ?_
 show (moveD b (dMove mv 0 n)).2 ≠ 0
 unfold moveD
 rw [if_neg (by rw [hd]; simp), if_neg (by show ¬ ((0 : Int) < 0 ∨ _ ≤ (0 : Int)); rw [ha]; omega), if_pos (show Au.mvErr (b.auth (dMove mv 0 n).n) (dMove mv 0 n).mv (dMove mv 0 n).sum ≠ 0 from he)]
 exact he
structure Dt (b : Bank) (K M : Nat) (has : Int) (a : Au.Au) : Prop where
 got : Got b K M 0 0 1 has a
 one : Dy.net 1 b.today = a.cap - a.ref
 zero : Dy.net 0 b.today = 0
 days : b.days = []
theorem Dt.step {b : Bank} {K M : Nat} {has : Int} {a : Au.Au} (D : Dt b K M has a) (hM : M ≤ 20) (hK : K ≤ 90) {mv : Int} (n : Int) (hmv : mv = 2 ∨ mv = 5) : ∃ a', Dt (doB b (dMove mv 0 n)).1 (K + 1) (M + 1) has a' := by
 have hau : b.auth 0 = a := by unfold Bank.auth; rw [D.got.auths]; rfl
 by_cases he : Au.mvErr a mv n = 0
 ·obtain ⟨e, G⟩ := D.got.step hM hK he (by omega)
  have ht : (doB b (dMove mv 0 n)).1.today = b.today ++ [⟨1, 0, mv, n⟩] := by
   rw [e]
   show b.today ++ [⟨(b.auth 0).shop, 0, mv, n⟩] = _
   rw [hau, D.got.shop]
  refine ⟨Au.step a mv n, G.more (Nat.le_refl _) (by unfold sends; split <;> omega), ?_, ?_, by rw [e]; exact D.days⟩
  ·have h1 := D.one
   unfold Dy.net at h1 ⊢
   rw [ht, Dy.sumBy_append, h1]
   rcases hmv with rfl | rfl
   ·simp [Dy.sumBy, Dy.netF, Dy.sgn, Au.step]; omega
   ·simp [Dy.sumBy, Dy.netF, Dy.sgn, Au.step]; omega
  ·have h1 := D.zero
   unfold Dy.net at h1 ⊢
   rw [ht, Dy.sumBy_append, h1]
   simp [Dy.sumBy, Dy.netF]
 ·rw [move_no D.got.down (by rw [D.got.auths]; rfl) (by rw [hau]; exact he)]
  exact ⟨a, D.got.more (by omega) (by omega), D.one, D.zero, D.days⟩
theorem Dt.all {has : Int} (l : List Int) : ∀ {b : Bank} {K M : Nat} {a : Au.Au}, Dt b K M has a → K + l.length ≤ 90 → M + l.length ≤ 20 → ∃ a', Dt (run b (l.map dayD)) (K + l.length) (M + l.length) has a' := by
 induction l with
 | nil => intro b K M a D _ _; exact ⟨a, D⟩
 | cons n r ih =>
  intro b K M a D h1 h2
  rw [List.length_cons] at h1 h2
  have h3 : ∃ a', Dt (doB b (dayD n)).1 (K + 1) (M + 1) has a' := by
   unfold dayD
   split
   ·exact D.step (by omega) (by omega) _ (Or.inl rfl)
   ·exact D.step (by omega) (by omega) _ (Or.inr rfl)
  obtain ⟨a', D'⟩ := h3
  obtain ⟨a2, D2⟩ := ih D' (by omega) (by omega)
  refine ⟨a2, ?_⟩
  rw [List.map_cons, run_cons, List.length_cons, show K + (r.length + 1) = K + 1 + r.length by omega, show M + (r.length + 1) = M + 1 + r.length by omega]
  exact D2
open Go.Proofs.YtofcnebekmjdoaaGreatDoor
theorem log_len (b : Bank) (l : List Dd) : (playL b l).2.length = l.length := by
 have := congrArg List.length (playL_log b l)
 rwa [List.length_map] at this
theorem told_at (b : Bank) (l : List Dd) {i : Nat} (hi : i < l.length) (h0 : (l.getD i zD).id ≠ 0) : told (l.getD i zD).id (playL b l).2 = some (((playL b l).2.map (·.2)).getD i (0, 0)) := by
 have hi' : i < (playL b l).2.length := by rw [log_len]; exact hi
 have h1 : ((playL b l).2[i]).1 = l.getD i zD := by
  have : ((playL b l).2.map (·.1))[i]? = l[i]? := by rw [playL_log]
  rw [List.getElem?_map, List.getElem?_eq_getElem hi', List.getElem?_eq_getElem hi] at this
  simpa [List.getD, hi] using this
 have := first_playL b l ((playL b l).2[i]) (List.getElem_mem hi') (by rw [h1]; exact h0)
 rw [h1] at this
 rw [this]
 simp [List.getD, hi']
structure Sd (m all : List Dd) : Prop where
 ids : ∀ j, j < m.length → (m.getD j zD).id = (j : Int) + 1
 like : ∀ b, Alike (playL b m) (playL b all)
 mem : ∀ i, i < all.length → ∃ j, j < m.length ∧ all.getD i zD = m.getD j zD
theorem getD_snoc {l : List Dd} {d : Dd} {i : Nat} : (l ++ [d]).getD i zD = if i < l.length then l.getD i zD else if i = l.length then d else zD := by
 by_cases h : i < l.length
 ·rw [if_pos h, List.getD_eq_getElem?_getD, List.getElem?_append_left h, List.getD_eq_getElem?_getD]
 ·rw [if_neg h]
  by_cases h2 : i = l.length
  ·rw [if_pos h2, h2]; simp [List.getD]
  ·rw [if_neg h2]
   have : (l ++ [d])[i]? = none := by rw [List.getElem?_eq_none_iff]; simp; omega
   simp [List.getD, this]
theorem Sd.again {m all : List Dd} (S : Sd m all) {k : Nat} (hk : k < m.length) : Sd m (all ++ [m.getD k zD]) := by
 have h0 : (m.getD k zD).id ≠ 0 := by rw [S.ids k hk]; omega
 refine ⟨S.ids, fun b => ?_, fun i hi => ?_⟩
 ·rw [playL_snoc]
  refine (S.like b).again h0 (a := ((playL b m).2.map (·.2)).getD k (0, 0)) ?_
  rw [← (S.like b).told _ h0]
  exact told_at b m hk h0
 ·rw [List.length_append, List.length_singleton] at hi
  rw [getD_snoc]
  split
  ·rename_i h; exact S.mem i h
  ·rw [if_pos (by omega)]; exact ⟨k, hk, rfl⟩
theorem Sd.tell {m all : List Dd} (S : Sd m all) (b : Bank) {i : Nat} (hi : i < all.length) : ∃ j, j < m.length ∧ (all.getD i zD).id = (j : Int) + 1 ∧ ((playL b all).2.map (·.2)).getD i (0, 0) = ((playL b m).2.map (·.2)).getD j (0, 0) := by
 obtain ⟨j, h1, h2⟩ := S.mem i hi
 have h0 : (m.getD j zD).id ≠ 0 := by rw [S.ids j h1]; omega
 refine ⟨j, h1, by rw [h2]; exact S.ids j h1, ?_⟩
 have e1 := told_at b all hi (by rw [h2]; exact h0)
 have e2 := told_at b m h1 h0
 rw [h2, ← (S.like b).told _ h0, e2] at e1
 exact (Option.some.inj e1).symm
end Go.Proofs.YtofcnebekmjdoaaGreatDoor.Bn
