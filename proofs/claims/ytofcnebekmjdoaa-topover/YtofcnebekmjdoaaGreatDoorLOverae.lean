import Derived.Test.YtofcnebekmjdoaaGreatDoorLOverad
set_option maxHeartbeats 4000000
set_option maxRecDepth 100000
namespace Go.Proofs.YtofcnebekmjdoaaGreatDoor.Bn
open Go.Proofs.YtofcnebekmjdoaaGreatDoor
theorem loads_no {b : Bank} {d : Dd} (h : d.kind ≠ 1) (k : Nat) : loads b d k = 0 := by unfold loads; rw [if_neg (fun x => h x.1)]
theorem pays_no {b : Bank} {d : Dd} (h : d.kind ≠ 11) (k : Nat) : paysOut b d k = 0 := by unfold paysOut; rw [if_neg (fun x => h x.1)]
theorem out_no {b : Bank} {d : Dd} (h : d.kind ≠ 1) (h2 : d.kind ≠ 11) : outD b d = 0 := by unfold outD; simp only [if_neg h, if_neg h2, ite_self]
theorem play_run0 (b : Bank) (ds : List Dd) (h : ∀ d ∈ ds, d.id = 0) : (playL b ds).1 = run b ds := playL_run b [] ds h
theorem start_cbal (ps : List Pa) (n : Nat) (cap : Int) (k : Nat) : cbal k (startB ps n cap) = 0 := by
 unfold cbal
 have h1 : ((startB ps n cap).cards.getD k zeroC).m = 0 := by
  by_cases hk : k < ps.length
  ·simp [startB, List.getD, hk]
  ·simp [startB, List.getD, hk, zeroC]
 rw [h1]
 rfl
theorem got_ask {c s has asked : Int} (hc : c = 0 ∨ c = 1) (hs : s = 0 ∨ s = 1) (h1 : 1 ≤ asked) (h2 : asked ≤ has) (h3 : has ≤ 100000) :
  Got (run (topS 0) [dLoad c has, dAsk c s asked]) 2 0 0 c s has ⟨c, s, asked, 0, 0, 0, 100, false⟩ ∧ (doB (topS 0) (dLoad c has)).2 = (0, 0) ∧ (doB (doB (topS 0) (dLoad c has)).1 (dAsk c s asked)).2 = (0, 0) := by
 have I0 : Inv (topS 0) := top_inv (by decide)
 have B0 : Bound 0 (topS 0) := start_bound _ _ _
 have e1 := load_done (n := c) (sum := has) I0 B0 (by decide) (by omega) (by show c < (2 : Int); omega) (by omega) (by show _ ≤ (0 : Int); decide)
 have cd : (topS 0).card c = ⟨0, 0, paceT, []⟩ := by rcases hc with rfl | rfl <;> rfl
 rw [cd] at e1
 have I1 := do_inv (d := dLoad c has) I0
 have B1 := do_bound (d := dLoad c has) I0 B0
 have A1 := do_accts (d := dLoad c has) I0
 have c1 := do_cbal (d := dLoad c has) I0 c.toNat (by show c.toNat < 2; omega)
 have d1 := fun k => do_bal (d := dLoad c has) I0 k
 have x1 : ∀ k : Nat, k < 2 → (k : Int) ≠ c → cbal k (doB (topS 0) (dLoad c has)).1 = 0 := fun k hk hc => by
  rw [do_cbal (d := dLoad c has) I0 k (by show k < 2; exact hk), show cbal k (topS 0) = 0 from start_cbal _ _ _ _]
  unfold loads
  rw [if_neg (fun h => hc h.2.2.symm)]; rfl
 have hl : loads (topS 0) (dLoad c has) c.toNat = has := by
  unfold loads
  rw [e1, if_pos ⟨rfl, rfl, by show c = ((c.toNat : Nat) : Int); omega⟩]; rfl
 have ho : outD (topS 0) (dLoad c has) = -has := by
  unfold outD
  rw [e1, if_pos rfl, if_pos (show (dLoad c has).kind = 1 from rfl)]; rfl
 rw [show cbal c.toNat (topS 0) = 0 from start_cbal _ _ _ _, hl] at c1
 have A1o := A1.out
 rw [ho, show Bk.getE (topS 0).book 0 = 0 from rfl] at A1o
 have w1 : (doB (topS 0) (dLoad c has)).1.way = (topS 0).way ∧ (doB (topS 0) (dLoad c has)).1.snd = (topS 0).snd ∧ (doB (topS 0) (dLoad c has)).1.auths = [] ∧ (doB (topS 0) (dLoad c has)).1.down = false ∧ (doB (topS 0) (dLoad c has)).1.time = 0 ∧ (doB (topS 0) (dLoad c has)).1.today = [] := by rw [e1]; exact ⟨rfl, rfl, rfl, rfl, rfl, rfl⟩
 obtain ⟨w1, s1, a1, dn1, t1, td1⟩ := w1
 have cd1 : (doB (topS 0) (dLoad c has)).1.card c = ⟨0 + has, 0, paceT, []⟩ := by
  rw [e1]
  exact card_set (topS 0) (topS 0).cards c _ (by show c.toNat < 2; omega)
 have e12 : (doB (topS 0) (dLoad c has)).2 = (0, 0) := by rw [e1]
 have l1 := A1.cards
 have l2 := A1.due
 have r0 : run (topS 0) [dLoad c has, dAsk c s asked] = (doB (doB (topS 0) (dLoad c has)).1 (dAsk c s asked)).1 := rfl
 rw [r0]
 clear r0
 have hb0 : ∀ k, bal k (topS 0) = 0 := fun k => start_bal _ _ _ _
 have hp0 : ∀ k, paysOut (topS 0) (dLoad c has) k = 0 := fun k => pays_no (by show (1 : Int) ≠ 11; decide) k
 generalize doB (topS 0) (dLoad c has) = r1 at *
 generalize r1.1 = b1 at *
 have hlc : b1.cards.length = 2 := l1
 have hld : b1.due.length = 2 := l2
 have ha := add_first (s := asked) (t := 0) (by omega) (by decide)
 have e2 := ask_done (n := c) (shop := s) (sum := asked) I1 dn1 (by omega) (by rw [hlc]; show c < (2 : Int); omega) (by omega) (by rw [hld]; show s < (2 : Int); omega) (by omega) (by rw [a1]; decide) (by rw [cd1]; dsimp only; omega) (by rw [cd1, t1, ha])
 have I2 := do_inv (d := dAsk c s asked) I1
 have B2 := do_bound (d := dAsk c s asked) I1 B1
 have A2 := do_accts (d := dAsk c s asked) I1
 have c2 := do_cbal (d := dAsk c s asked) I1 c.toNat (by omega)
 have d2 := fun k => do_bal (d := dAsk c s asked) I1 k
 rw [loads_no (by show (2 : Int) ≠ 1; decide), c1] at c2
 have A2o := A2.out
 rw [out_no (by show (2 : Int) ≠ 1; decide) (by show (2 : Int) ≠ 11; decide), A1o] at A2o
 refine ⟨⟨I2, B2, ?_, by rw [e2]; exact t1, ?_, by rw [A2.cards, hlc], by rw [A2.due, hld], by omega, fun k hk hn => ?_, fun k => ?_, by omega, fun i => ?_, fun i => ?_, fun i => ?_, ?_, rfl, rfl, hc, hs⟩, e12, ?_⟩
 ·rw [e2]; exact dn1
 ·rw [e2]; dsimp only; rw [a1, t1]; rfl
 ·rw [do_cbal (d := dAsk c s asked) I1 k (by omega), loads_no (by show (2 : Int) ≠ 1; decide), x1 k hk hn]; rfl
 ·rw [d2, pays_no (by show (2 : Int) ≠ 11; decide), d1, hp0, hb0]; rfl
 ·rw [e2]; dsimp only; rw [w1]; rfl
 ·rw [e2]; dsimp only; rw [s1]; show (0 : Nat) ≤ 0; decide
 ·rw [e2]; dsimp only; rw [s1]; show (0 : Int) ≤ 2; decide
 ·rw [e2]; dsimp only; rw [td1]; show (0 : Nat) ≤ 2; decide
 ·rw [e2, a1]; rfl
theorem put_sizes {s : Po.Se} {t : Po.Tr} (h : (Po.putS s t).2 = 0) : (Po.putS s t).1.kept.length = s.kept.length + 1 ∧ (Po.putS s t).1.sent = s.sent + 1 := by
 rw [(put_zero h).1]; simp [Po.outS]
theorem send_sizes {sd : Bool → Po.Se} {k a n : Int} (h : (sendBy sd k a n).2 = 0) (i : Bool) : ((sendBy sd k a n).1 i).kept.length ≤ (sd i).kept.length + sends k ∧ ((sendBy sd k a n).1 i).sent ≤ (sd i).sent + 1 := by
 have key : ∀ (j : Bool) (t : Po.Tr), (Po.putS (sd j) t).2 = 0 → (upd sd j (Po.putS (sd j) t).1 i).kept.length ≤ (sd i).kept.length + 1 ∧ (upd sd j (Po.putS (sd j) t).1 i).sent ≤ (sd i).sent + 1 := by
  intro j t h
  have := put_sizes h
  unfold upd
  split
  ·rename_i e; subst e; omega
  ·omega
 unfold sendBy at h ⊢
 by_cases q1 : k = 2 ∨ k = 3
 ·rw [if_pos q1] at h ⊢; unfold sends; rw [if_pos (by omega)]; exact key _ _ h
 rw [if_neg q1] at h ⊢
 by_cases q2 : k = 5
 ·rw [if_pos q2] at h ⊢; unfold sends; rw [if_pos (by omega)]; exact key _ _ h
 rw [if_neg q2] at h ⊢
 by_cases q3 : k = 7
 ·rw [if_pos q3] at h ⊢; unfold sends; rw [if_pos (by omega)]; exact key _ _ h
 rw [if_neg q3]
 dsimp only
 omega
theorem Got.step {b : Bank} {K M : Nat} {T c s has : Int} {a : Au.Au} (G : Got b K M T c s has a) (hM : M ≤ 20) (hK : K ≤ 90) {mv n : Int} (he : Au.mvErr a mv n = 0) (h1 : mv ≠ 1) : doB b (dMove mv 0 n) = (moveAll b (dMove mv 0 n), 0, 0) ∧ Got (doB b (dMove mv 0 n)).1 (K + 1) (M + sends mv) T c s has (Au.step a mv n) := by
 have hau : b.auth 0 = a := by unfold Bank.auth; rw [G.auths]; rfl
 have hc01 := G.c01
 have hs01 := G.s01
 have e := move_done (mv := mv) (n := 0) (sum := n) G.inv G.bound (by omega) G.down (by decide) (by rw [G.auths]; simp) (by rw [hau]; exact he) (fun h => h1 h.1) (fun i => by have := G.kept i; omega) (fun i => by have := G.sent i; omega) (by have := G.today; omega)
 refine ⟨e, ?_⟩
 have I2 := do_inv (d := dMove mv 0 n) G.inv
 have B2 := do_bound (d := dMove mv 0 n) G.inv G.bound
 have A2 := do_accts (d := dMove mv 0 n) G.inv
 have c2 := do_cbal (d := dMove mv 0 n) G.inv c.toNat (by rw [G.cards]; omega)
 have d2 := fun k => do_bal (d := dMove mv 0 n) G.inv k
 rw [loads_no (by show (3 : Int) ≠ 1; decide)] at c2
 have A2o := A2.out
 rw [out_no (by show (3 : Int) ≠ 1; decide) (by show (3 : Int) ≠ 11; decide)] at A2o
 have may := Au.mvErr_zero.1 he
 have n1 : 1 ≤ n := may.2.2.2.2.1
 have n2 : n ≤ 1000000 := may.2.2.2.2.2.1
 have hsend : (sendBy b.snd mv 0 n).2 = 0 := by
  have hp : ∀ (i : Bool) (k : Int), 1 ≤ k → k ≤ 3 → (Po.putS (b.snd i) ⟨0, k, 0, n⟩).2 = 0 := fun i k a1 a2 => put_ok (G.inv.sent.right i) (by have := G.kept i; omega) (by have := G.sent i; omega) ⟨a1, a2⟩ ⟨by show (0 : Int) ≤ 0; decide, by show (0 : Int) < 30; decide⟩ ⟨n1, n2⟩
  unfold sendBy
  repeat' split
  ·exact hp _ _ (by decide) (by decide)
  ·exact hp _ _ (by decide) (by decide)
  ·exact hp _ _ (by decide) (by decide)
  ·rfl
 obtain ⟨-, -, t3, t4, -⟩ := step_right may
 have cb := G.cb
 have out := G.out
 refine ⟨I2, B2, ?_, by rw [e]; exact G.time, ?_, by rw [A2.cards, G.cards], by rw [A2.due, G.due], by omega, fun k hk hn => ?_, fun k => ?_, by omega, fun i => ?_, fun i => ?_, fun i => ?_, ?_, by rw [t3, G.card], by rw [t4, G.shop], hc01, hs01⟩
 ·rw [e]; exact G.down
 ·rw [e]
  show b.auths.set 0 (Au.step (b.auth 0) mv n) = _
  rw [hau, G.auths]; rfl
 ·rw [do_cbal (d := dMove mv 0 n) G.inv k (by rw [G.cards]; exact hk), loads_no (by show (3 : Int) ≠ 1; decide), G.ob k hk hn]; rfl
 ·rw [d2, pays_no (by show (3 : Int) ≠ 11; decide), G.db]; rfl
 ·rw [e]; exact G.way i
 ·rw [e]
  show ((sendBy b.snd mv 0 n).1 i).kept.length ≤ M + sends mv
  have := (send_sizes hsend i).1
  have := G.kept i
  omega
 ·rw [e]
  show ((sendBy b.snd mv 0 n).1 i).sent ≤ ((K + 1 : Nat) : Int)
  have := (send_sizes hsend i).2
  have := G.sent i
  omega
 ·rw [e]
  show (b.today ++ [_]).length ≤ K + 1
  have := G.today
  rw [List.length_append, List.length_singleton]; omega
theorem Got.now {b : Bank} {K : Nat} {T c s has : Int} {a : Au.Au} (G : Got b K 0 T c s has a) :
  (b.cards.getD c.toNat zeroC).m = has - (a.cap - a.ref - a.dis) ∧ (b.cards.getD c.toNat zeroC).h = Au.holdA a ∧ b.due.getD s.toNat 0 = a.cap - a.ref ∧ Bk.getE b.book 1 = 0 ∧ Bk.getE b.book 2 = -a.dis := by
 have hc01 := G.c01
 have hs01 := G.s01
 have hk : ∀ i, (b.snd i).kept = [] := fun i => List.eq_nil_of_length_eq_zero (by have := G.kept i; omega)
 have hh := G.inv.held.held c.toNat (by rw [G.cards]; omega)
 have hm := G.cb
 have hd := due_end s.toNat (hk false)
 have h1 := G.inv.books.acc1
 have h2 := G.inv.books.acc2
 unfold onWay at h1
 unfold onBack disputed at h2
 unfold cbal at hm
 rw [hk, hk] at h1 h2
 rw [hk true] at hm
 rw [G.auths] at hh hm hd h2
 rw [G.db] at hd
 have hcn : ((c.toNat : Nat) : Int) = c := by omega
 have hsn : ((s.toNat : Nat) : Int) = s := by omega
 have s1 : sumOn (spentBy c.toNat) [a] = a.cap - a.ref - a.dis := by rw [sumOn_one]; unfold spentBy; rw [hcn, if_pos G.card]
 have s2 : sumOn (captBy s.toNat) [a] = a.cap - a.ref := by rw [sumOn_one]; unfold captBy; rw [hsn, if_pos G.shop]
 have s3 : heldOf c.toNat [a] = Au.holdA a := by unfold heldOf; rw [sumOn_one]; unfold heldBy; rw [hcn, if_pos G.card]
 rw [s1] at hm
 rw [s2] at hd
 rw [s3] at hh
 simp only [sumOn] at hm h1 h2
 exact ⟨by omega, hh, by omega, by omega, by omega⟩
theorem mv_ok {a : Au.Au} {k n : Int} (h : Au.wrongA a = 0) (k1 : 1 ≤ k) (k2 : k ≤ 8) (n1 : 1 ≤ n) (n2 : n ≤ 1000000) (hs : ¬ (a.shut = true ∧ k ≤ 4)) (hr : n ≤ Au.room a k) : Au.mvErr a k n = 0 := by
 unfold Au.mvErr
 rw [if_neg (by simpa using h), if_neg (by omega), if_neg (by omega), if_neg hs, if_pos hr]
def ansL (b : Bank) : List Dd → List An
 | [] => []
 | d :: r => (doB b d).2 :: ansL (doB b d).1 r
theorem fold_ans (ds : List Dd) : ∀ s : Bank × List (Dd × An), (∀ d ∈ ds, d.id = 0) → (ds.foldl play1 s).2.map (·.2) = s.2.map (·.2) ++ ansL s.1 ds := by
 induction ds with
 | nil => intro s _; simp [ansL]
 | cons d r ih =>
  intro s h
  have h0 : d.id = 0 := h d List.mem_cons_self
  have e : play1 s d = ((doB s.1 d).1, s.2 ++ [(d, ((doB s.1 d).2.1, (doB s.1 d).2.2))]) := by
   unfold play1
   rw [if_pos h0]
  rw [List.foldl_cons, ih _ (fun x hx => h x (List.mem_cons_of_mem _ hx)), e]
  simp [ansL]
theorem play_ans (b : Bank) (ds : List Dd) (h : ∀ d ∈ ds, d.id = 0) : (playL b ds).2.map (·.2) = ansL b ds := by
 have := fold_ans ds (b, []) h
 simpa [playL] using this
theorem ans_append (x y : List Dd) : ∀ b : Bank, ansL b (x ++ y) = ansL b x ++ ansL (run b x) y := by
 induction x with
 | nil => intro b; rfl
 | cons d r ih => intro b; rw [List.cons_append]; simp only [ansL, List.cons_append]; rw [ih]; rfl
theorem tick_done {b : Bank} {n : Int} (h : 0 ≤ n) (h2 : 0 ≤ b.time) (h3 : b.time + n ≤ 1000000) (hd : b.down = false) : doB b (dTick n) = (shutB { b with time := b.time + n }, 0, 0) := by
 unfold doB dTick two tickB
 simp only []
 rw [if_neg (by decide), if_neg (by decide), if_neg (by decide)]
 simp only [if_true]
 rw [if_neg (by omega), if_neg (by rw [hd]; decide)]
theorem Got.tick {b : Bank} {K M : Nat} {T c s has : Int} {a : Au.Au} (G : Got b K M T c s has a) {n : Int} (h : 0 ≤ n) (h3 : T + n ≤ 1000000) : (doB b (dTick n)).2 = (0, 0) ∧ Got (doB b (dTick n)).1 (K + 1) M (T + n) c s has (Au.lateA a (T + n)) := by
 have t0 := G.inv.held.time0
 have hc01 := G.c01
 have e := tick_done (b := b) h t0 (by rw [G.time]; exact h3) G.down
 have I2 := do_inv (d := dTick n) G.inv
 have B2 := do_bound (d := dTick n) G.inv G.bound
 have A2 := do_accts (d := dTick n) G.inv
 have c2 := do_cbal (d := dTick n) G.inv c.toNat (by rw [G.cards]; omega)
 have d2 := fun k => do_bal (d := dTick n) G.inv k
 rw [loads_no (by show (4 : Int) ≠ 1; decide)] at c2
 have A2o := A2.out
 rw [out_no (by show (4 : Int) ≠ 1; decide) (by show (4 : Int) ≠ 11; decide)] at A2o
 have cb := G.cb
 have out := G.out
 refine ⟨by rw [e], I2, B2, by rw [e]; exact G.down, by rw [e]; show b.time + n = _; rw [G.time], ?_, by rw [A2.cards, G.cards], by rw [A2.due, G.due], by omega, fun k hk hn => ?_, fun k => ?_, by omega, fun i => by rw [e]; exact G.way i, fun i => by rw [e]; exact G.kept i, fun i => ?_, ?_, G.card, G.shop, G.c01, G.s01⟩
 ·rw [e]; show b.auths.map (fun a => Au.lateA a (b.time + n)) = _; rw [G.auths, G.time]; rfl
 ·rw [do_cbal (d := dTick n) G.inv k (by rw [G.cards]; exact hk), loads_no (by show (4 : Int) ≠ 1; decide), G.ob k hk hn]; rfl
 ·rw [d2, pays_no (by show (4 : Int) ≠ 11; decide), G.db]; rfl
 ·rw [e]; have := G.sent i; show (b.snd i).sent ≤ _; omega
 ·rw [e]; have := G.today; show b.today.length ≤ _; omega
def overL (has asked ticks : Int) : List Dd := [dLoad 0 has, dAsk 0 0 asked] ++ [dTick ticks, dMove 2 0 1]
theorem over_plain {has asked ticks : Int} (h1 : 1 ≤ asked) (h2 : asked ≤ has) (h3 : has ≤ 100000) (t0 : 0 ≤ ticks) (t1 : ticks ≤ 500) :
  ∃ e : An, ansL (topS 0) (overL has asked ticks) = [(0, 0), (0, 0), (0, 0), e] ∧
   (100 ≤ ticks → e.1 = 9 ∧ ((run (topS 0) (overL has asked ticks)).cards.getD 0 zeroC).h = 0 ∧ ((run (topS 0) (overL has asked ticks)).cards.getD 0 zeroC).m = has) ∧
   (ticks < 100 → e.1 = 0 ∧ ((run (topS 0) (overL has asked ticks)).cards.getD 0 zeroC).h = asked - 1) := by
 obtain ⟨G2, x1, x2⟩ := got_ask (c := 0) (s := 0) (has := has) (asked := asked) (Or.inl rfl) (Or.inl rfl) h1 h2 h3
 have ea : ansL (topS 0) [dLoad 0 has, dAsk 0 0 asked] = [(0, 0), (0, 0)] := by
  simp only [ansL]
  rw [x1, x2]
 unfold overL
 rw [ans_append, ea, run_append]
 clear ea x1 x2
 generalize run (topS 0) [dLoad 0 has, dAsk 0 0 asked] = b2 at *
 obtain ⟨y, G3⟩ := G2.tick t0 (by omega)
 have e1 : ansL b2 [dTick ticks, dMove 2 0 1] = [(0, 0), (doB (doB b2 (dTick ticks)).1 (dMove 2 0 1)).2] := by
  simp only [ansL]
  rw [y]
 have e2 : run b2 [dTick ticks, dMove 2 0 1] = (doB (doB b2 (dTick ticks)).1 (dMove 2 0 1)).1 := rfl
 rw [e1, e2]
 clear e1 e2
 generalize (doB b2 (dTick ticks)).1 = b3 at *
 refine ⟨_, rfl, fun hl => ?_, fun hl => ?_⟩
 ·have hsh : Au.lateA ⟨0, 0, asked, 0, 0, 0, 100, false⟩ (0 + ticks) = ⟨0, 0, asked, 0, 0, 0, 100, true⟩ := by
   unfold Au.lateA
   simp; omega
  rw [hsh] at G3
  have he : Au.mvErr ⟨0, 0, asked, 0, 0, 0, 100, true⟩ 2 1 = 9 := by
   unfold Au.mvErr
   rw [if_neg (by simpa using G3.right), if_neg (by decide), if_neg (by decide), if_pos ⟨rfl, by decide⟩]
  have hau : b3.auth 0 = ⟨0, 0, asked, 0, 0, 0, 100, true⟩ := by unfold Bank.auth; rw [G3.auths]; rfl
  have e3 : doB b3 (dMove 2 0 1) = (b3, 9, 0) := by
   unfold doB dMove two moveD
   simp only []
   rw [if_neg (by decide), if_neg (by decide)]
   simp only [if_true]
   rw [if_neg (by rw [G3.down]; decide), if_neg (by rw [G3.auths]; simp), hau, he]
   rfl
  rw [e3]
  obtain ⟨m, hh, -⟩ := G3.now
  dsimp only at m
  have m' : (b3.cards.getD (0 : Int).toNat zeroC).m = has := by omega
  have hh' : (b3.cards.getD (0 : Int).toNat zeroC).h = 0 := by rw [hh]; rfl
  exact ⟨rfl, hh', m'⟩
 ·have hsh : Au.lateA ⟨0, 0, asked, 0, 0, 0, 100, false⟩ (0 + ticks) = ⟨0, 0, asked, 0, 0, 0, 100, false⟩ := by
   unfold Au.lateA
   simp; omega
  rw [hsh] at G3
  obtain ⟨e3, G4⟩ := G3.step (mv := 2) (n := 1) (by decide) (by decide) (mv_ok G3.right (by decide) (by decide) (by decide) (by decide) (by simp) (by simp [Au.room]; omega)) (by decide)
  have hh := G4.inv.held.held 0 (by rw [G4.cards]; decide)
  rw [G4.auths] at hh
  have s3 : heldOf 0 [Au.step ⟨0, 0, asked, 0, 0, 0, 100, false⟩ 2 1] = asked - 1 := by
   unfold heldOf
   rw [sumOn_one]
   unfold heldBy
   rw [if_pos (by rfl)]
   simp [Au.step, Au.holdA]
   omega
  rw [s3] at hh
  exact ⟨by rw [e3], hh⟩
open Go.RowKit Go.Proofs.YtofcnebekmjdoaaGreatDoor.Gn Go.Maps
theorem playR_top {cap : Int} (hc : 0 ≤ cap ∧ cap ≤ 1000000) {l : List Dd} (h0 : ∀ d ∈ l, d.id = 0) (hl : l.length ≤ 150) : playR psT 2 cap l = (run (topS cap) l, ansL (topS cap) l, (0, 0)) := by
 have hE : setErr psT 2 cap = (0, 0) := by
  unfold setErr
  rw [if_neg (by decide), if_neg (by omega)]
  kernel_rfl
 unfold playR
 rw [hE, if_neg (by simp), if_neg (by omega), ← play_run0 _ _ h0, ← play_ans _ _ h0]
 rfl
theorem run_lens {b : Bank} (I : Inv b) (l : List Dd) : (run b l).cards.length = b.cards.length ∧ (run b l).due.length = b.due.length := by
 induction l generalizing b with
 | nil => exact ⟨rfl, rfl⟩
 | cons d r ih =>
  rw [run_cons]
  have A := do_accts (d := d) I
  have I' : Inv (doB b d).1 := run_inv I [d]
  exact ⟨(ih I').1.trans A.cards, (ih I').2.trans A.due⟩
theorem card_at {W : World} {b : Bank} {v : Vs} {cs : List CV} {ds : List DV} (SH : Shows W b v cs ds) {n k : Nat} (hn : b.cards.length = n) (hk : k < n) :
  ∃ (z o c : Nat) (x : CV), x.c = b.cards.getD k zeroC ∧ v.c = .slice (some ⟨z, o, none⟩) n c ∧ (∀ j u, (kC.cells x)[j]? = some u → W.cell? ⟨z, o + k * 6 + j, none⟩ = some u) := by
 have hcs := SH.csv
 have hlen : cs.length = n := by rw [← hn, ← hcs, List.length_map]
 obtain ⟨a, c, h1, l1⟩ := SH.cards.lies
 obtain ⟨z, o, rfl, -, hf⟩ := l1.elem (i := k) (x := cs.getD k zCV) (by simp [List.getD, show k < cs.length by omega])
 refine ⟨z, o, c, cs.getD k zCV, ?_, by rw [h1, hlen], hf⟩
 rw [← hcs]
 simp [List.getD, show k < cs.length by omega]
theorem small_two {x y : Int} (h : smallB [x, y] = true) : 1 ≤ x ∧ x ≤ 100000 ∧ 1 ≤ y ∧ y ≤ 100000 := by
 unfold smallB at h
 simp at h
 omega
open Go.RowKit Go.Proofs.YtofcnebekmjdoaaGreatDoor.Gn Go.Maps
theorem over_ids (has asked ticks : Int) : ∀ d ∈ overL has asked ticks, d.id = 0 := by
 intro d hd
 simp [overL, dLoad, dAsk, dTick, dMove] at hd
 rcases hd with rfl | rfl | rfl | rfl <;> rfl
theorem over_facts {has asked ticks : Int} (h1 : 1 ≤ asked) (h2 : asked ≤ has) (h3 : has ≤ 100000) (t0 : 0 ≤ ticks) (t1 : ticks ≤ 500) {W W' : World} {v : Vs} {cs : List CV} {ds : List DV} {va : Value} (SH : Shows W (run (topS 0) (overL has asked ticks)) v cs ds) (AP : Ap kAn (fun _ => 0) W va (ansL (topS 0) (overL has asked ticks)) 0) (hb : Below W.heap.size W W') :
  ∃ (z1 o1 c1 z3 o3 c3 : Nat) (x : CV) (e : Int), va = .slice (some ⟨z1, o1, none⟩) 4 c1 ∧ W'.cell? ⟨z1, o1 + 6, none⟩ = some (.int .i64 e) ∧ v.c = .slice (some ⟨z3, o3, none⟩) 2 c3 ∧ (∀ j u, (kC.cells x)[j]? = some u → W'.cell? ⟨z3, o3 + j, none⟩ = some u) ∧ RightC x.c ∧ (100 ≤ ticks → e = 9 ∧ x.c.h = 0 ∧ x.c.m = has) ∧ (ticks < 100 → e = 0 ∧ x.c.h = asked - 1) := by
 obtain ⟨e, p1, p2, p3⟩ := over_plain h1 h2 h3 t0 t1
 have I : Inv (topS 0) := top_inv (by decide)
 have hlen := (run_lens I (overL has asked ticks)).1
 have I2 := run_inv I (overL has asked ticks)
 rw [p1] at AP
 obtain ⟨a1, c1, h1', l1⟩ := AP.lies
 obtain ⟨z1, o1, rfl, -, f1⟩ := (l1.below hb).elem (i := 3) (x := e) rfl
 obtain ⟨z3, o3, c3, x, hx, hv, f3⟩ := card_at (SH.below hb) (n := 2) (k := 0) (hlen.trans rfl) (by decide)
 have hR : RightC x.c := by
  rw [hx]
  exact I2.held.right _ (getD_mem' zeroC (by rw [hlen]; decide))
 refine ⟨z1, o1, c1, z3, o3, c3, x, e.1, h1', f1 0 _ rfl, hv, fun j u hj => by simpa using f3 j u hj, hR, fun h => ?_, fun h => ?_⟩
 ·rw [hx]; exact p2 h
 ·rw [hx]; exact p3 h
theorem over_any (has asked ticks : Int) (w : World) (_ : -9223372036854775808 ≤ has ∧ has ≤ 9223372036854775807) (_ : -9223372036854775808 ≤ asked ∧ asked ≤ 9223372036854775807) (_ : -9223372036854775808 ≤ ticks ∧ ticks ≤ 9223372036854775807) (O : Oth w) :
  Calls Tryz.prog 13 #[.int .i64 has, .int .i64 asked, .int .i64 ticks] w fun e w' => e = .returned (.bool true) ∧ Below w.heap.size w w' := by
 have hA := talive_any w O
 have hS := fun (X : World) => tsetup_any 0 X
 have hD := fun (k n s : Int) (X : World) => tdo_any k n s X
 have hM := fun (k n s : Int) (X : World) => tmove_any k n s X
 unfold ddv at hD hM
 go_enter Tryz.func13, Tryz.ntmps13
 go_upto_region 1 with fail
 go_upto_region 2 with fail
 refine hA.mono ?_
 rintro _ w1 ⟨rfl, hb1⟩
 clear hA
 have e2 := below_alloc w1 (.cells #[.int .i64 has, .int .i64 asked] 3)
 have hl2 : Gn.Lies kI (w1.alloc (.cells #[.int .i64 has, .int .i64 asked] 3)) (some ⟨w1.heap.size, 0, none⟩) 2 [has, asked] := lies_blk (K := kI) (L := [has, asked]) (heap_alloc_at _ _ _ rfl) rfl (by simp [maxLen]) _
 have hSm := small_any _ _ _ _ hl2
 have hb2 := hb1.trans (e2.mono hb1.size)
 have hl2' : [has, asked].length = 2 := rfl
 rw [hl2'] at hSm
 have hsm := @small_two has asked
 generalize smallB [has, asked] = sm at *
 clear e2 hl2 hl2'
 go_upto_region 3 with fail
 go_upto_region 4 with fail
 refine hSm.mono ?_
 rintro _ w3 ⟨rfl, hb3⟩
 have hbw : Below w.heap.size w w3 := hb2.trans (hb3.mono hb2.size)
 clear hSm hb1 hb2 hb3
 cases sm with
 | false =>
  clear hS hD hM
  go_wp2_with fail
  exact bodyPost_ret (results_tmp Tryz.results13 _ _ _) rfl ⟨rfl, hbw⟩
 | true =>
  have hsm' := hsm rfl
  clear hsm
  by_cases c2 : has < asked
  ·clear hS hD hM
   go_wp2_with fail
   exact bodyPost_ret (results_tmp Tryz.results13 _ _ _) rfl ⟨rfl, hbw⟩
  by_cases c3 : ticks < 0
  ·clear hS hD hM
   go_wp2_with fail
   exact bodyPost_ret (results_tmp Tryz.results13 _ _ _) rfl ⟨rfl, hbw⟩
  by_cases c4 : 500 < ticks
  ·clear hS hD hM
   go_wp2_with fail
   exact bodyPost_ret (results_tmp Tryz.results13 _ _ _) rfl ⟨rfl, hbw⟩
  have hP := fun (W : World) (a : Option Addr) (c : Nat) (al : Option Addr) (h : Gn.Lies kPa W a c psT) (hd : Gn.Lies kDd W al 4 (overL has asked ticks)) (hO : Oth W) => play_any psT a c 2 0 al 4 (overL has asked ticks) W h hd (fit0 (over_ids has asked ticks)) hO
  have hF := fun (W W' : World) (v : Vs) (cs : List CV) (ds : List DV) (va : Value) SH AP hb => over_facts (has := has) (asked := asked) (ticks := ticks) (W := W) (W' := W') (v := v) (cs := cs) (ds := ds) (va := va) hsm'.2.2.1 (by omega) hsm'.2.1 (by omega) (by omega) SH AP hb
  rw [playR_top (by decide) (over_ids has asked ticks) (show 4 ≤ 150 by decide), show psT.length = 2 from rfl, show (overL has asked ticks).length = 4 from rfl] at hP
  unfold Plays at hP
  dsimp only at hP
  generalize run (topS 0) (overL has asked ticks) = b at *
  generalize ansL (topS 0) (overL has asked ticks) = A at *
  simp only [bkv_cells] at hP
  unfold suv at hS hP
  unfold Dy.fv at hP
  go_upto_region 5 with fail
  go_upto_region 6 with fail
  refine (hS _).mono ?_
  rintro _ w4 ⟨za, c, rfl, hl, hb4, -⟩
  go_upto_region 6 with fail
  refine (hD _ _ _ _).mono ?_
  rintro _ w5 ⟨rfl, hb5⟩
  go_upto_region 6 with fail
  refine (hD _ _ _ _).mono ?_
  rintro _ w6 ⟨rfl, hb6⟩
  go_upto_region 6 with fail
  refine (hD _ _ _ _).mono ?_
  rintro _ w7 ⟨rfl, hb7⟩
  go_upto_region 6 with fail
  refine (hM _ _ _ _).mono ?_
  rintro _ w8 ⟨rfl, hb8⟩
  have hb48 := ((hb5.trans (hb6.mono hb5.size)).trans (hb7.mono (Nat.le_trans hb5.size hb6.size))).trans (hb8.mono (Nat.le_trans (Nat.le_trans hb5.size hb6.size) hb7.size))
  have e9 := below_alloc w8 (.cells #[.int .i64 0, .int .i64 1, .int .i64 0, .int .i64 0, .int .i64 0, .int .i64 has, .int .i64 0, .int .i64 2, .int .i64 0, .int .i64 0, .int .i64 0, .int .i64 asked, .int .i64 0, .int .i64 4, .int .i64 0, .int .i64 0, .int .i64 0, .int .i64 ticks, .int .i64 0, .int .i64 3, .int .i64 0, .int .i64 0, .int .i64 2, .int .i64 1] 74)
  have hd9 : Gn.Lies kDd (w8.alloc (.cells #[.int .i64 0, .int .i64 1, .int .i64 0, .int .i64 0, .int .i64 0, .int .i64 has, .int .i64 0, .int .i64 2, .int .i64 0, .int .i64 0, .int .i64 0, .int .i64 asked, .int .i64 0, .int .i64 4, .int .i64 0, .int .i64 0, .int .i64 0, .int .i64 ticks, .int .i64 0, .int .i64 3, .int .i64 0, .int .i64 0, .int .i64 2, .int .i64 1] 74)) (some ⟨w8.heap.size, 0, none⟩) 4 (overL has asked ticks) := lies_blk (K := kDd) (L := overL has asked ticks) (heap_alloc_at _ _ _ rfl) rfl (by simp [overL, maxLen]) _
  have hb49 := hb48.trans (e9.mono hb48.size)
  have hbw4 := hbw.trans (hb4.mono hbw.size)
  have hbw9 := hbw4.trans (hb49.mono hbw4.size)
  have hP1 := hP _ _ _ _ (hl.below hb49) hd9 (O.keep (hbw9.block 0 O.lt))
  clear hP hS hD hM hl hd9 hb4 hb5 hb6 hb7 hb8 hb48 hb49 e9 hbw4 hbw O
  go_upto_region 6 with (first
   | (go_at_call 18; refine hP1.mono ?_; rintro _ w2 ⟨v, cs, ds, va, rfl, SH, AP, hb3⟩; obtain ⟨G1, G2, G3, G4, G5⟩ := got_box w2 #[.int .i64 0, .bool false, .slice none 0 0, .slice none 0 0, .slice none 0 0, .int .i64 0, .slice none 0 0, .int .i64 0, .slice none 0 0, .int .i64 0, .int .i64 0, .slice none 0 0, .slice none 0 0, .int .i64 0, .slice none 0 0, .slice none 0 0, .slice none 0 0, .slice none 0 0, .slice none 0 0] rfl b v (0, 0); have hF1 := hF _ _ _ _ _ _ SH AP G5; replace G3 := bko_cells G3; obtain ⟨t0, t1, t2, t3⟩ := fo_cells G2; obtain ⟨y0, y1, y2, y3⟩ := fo_cells G4; have hone := hid SH.one; have hinf : Hid ((Tryz.prog.info? 43).map (·.size) = some (cellsK b v).size) := hid infoK; have hb4 : Below w.heap.size w _ := (hbw9.trans (hb3.mono hbw9.size)).trans (G5.mono ((hbw9.trans (hb3.mono hbw9.size)).size)); dsimp only at t0 t1 y0 y1 G3 hb4 hF1; clear G4 G5 SH AP G2 hP1 hF; generalize cellsK b v = cc at *)
   | (refine wpList_store_mid rfl 43 _ _ rfl w2.heap.size 0 cc rfl rfl G1 hinf.out hone.out ?_))
  generalize ((((w2.alloc (.cells #[.int .i64 0, .bool false, .slice none 0 0, .slice none 0 0, .slice none 0 0, .int .i64 0, .slice none 0 0, .int .i64 0, .slice none 0 0, .int .i64 0, .int .i64 0, .slice none 0 0, .slice none 0 0, .int .i64 0, .slice none 0 0, .slice none 0 0, .slice none 0 0, .slice none 0 0, .slice none 0 0] 43)).alloc (.cells #[.int .i64 0, .int .i64 0] 47)).setCells w2.heap.size 0 cc.toList).setCell ⟨w2.heap.size + 1, 0, none⟩ (.int .i64 0)).setCell ⟨w2.heap.size + 1, 1, none⟩ (.int .i64 0) = Z at *
  obtain ⟨-, -, q2, -⟩ := G3
  obtain ⟨z1, o1, c1, z3, o3, c3', x, e, rfl, f1, hvc, fx, hR, hlate, hsoon⟩ := hF1
  rw [hvc] at q2
  have x0 := fx 0 _ rfl
  have x1 := fx 1 _ rfl
  have x2 := fx 2 _ rfl
  have x3 := fx 3 _ rfl
  have x4 := fx 4 _ rfl
  have x5 := fx 5 _ rfl
  simp only [Nat.add_zero] at x0
  clear hvc G1 t0 t1 t2 t3 hb3 hbw9 fx hone hinf
  by_cases late : 100 ≤ ticks
  ·obtain ⟨rfl, k1, k2⟩ := hlate late
   have hFr := fun Y => free_any x.c x.a x.cap Y hR.m1 hR.m2 hR.h1 hR.h2
   unfold cv at hFr
   rw [k1, k2] at hFr
   rw [k1] at x1
   rw [k2] at x0
   clear hlate hsoon hR k1 k2
   go_wp2_with (go_at_call 32; refine (hFr _).mono ?_; rintro _ w5 ⟨rfl, hb6⟩)
   exact bodyPost_ret (results_tmp Tryz.results13 _ _ _) rfl ⟨rfl, hb4.trans (hb6.mono hb4.size)⟩
  ·obtain ⟨rfl, k1⟩ := hsoon (by omega)
   rw [k1] at x1
   clear hlate hsoon hR
   go_wp2_with fail
   exact bodyPost_ret (results_tmp Tryz.results13 _ _ _) rfl ⟨by simp, hb4⟩
def given (count : Int) (i : Nat) : Nat := min i count.toNat
def dayD (n : Int) : Dd := if 0 < n then dMove 2 0 n else dMove 5 0 (-(max n (-1000000)))
theorem Got.more {b : Bank} {K M K2 M2 : Nat} {T c s has : Int} {a : Au.Au} (G : Got b K M T c s has a) (hK : K ≤ K2) (hM : M ≤ M2) : Got b K2 M2 T c s has a :=
 ⟨G.inv, G.bound.mono hK, G.down, G.time, G.auths, G.cards, G.due, G.cb, G.ob, G.db, G.out, G.way, fun i => Nat.le_trans (G.kept i) hM, fun i => by have := G.sent i; omega, Nat.le_trans G.today hK, G.card, G.shop, G.c01, G.s01⟩
theorem move_no {b : Bank} {mv n : Int} (hd : b.down = false) (ha : b.auths.length = 1) (he : Au.mvErr (b.auth 0) mv n ≠ 0) : (doB b (dMove mv 0 n)).1 = b := by
 refine doB_refused b _ ?_
 show (moveD b (dMove mv 0 n)).2 ≠ 0
 unfold moveD
 rw [if_neg (by rw [hd]; simp), if_neg (by show ¬ ((0 : Int) < 0 ∨ _ ≤ (0 : Int)); rw [ha]; omega), if_pos (show Au.mvErr (b.auth (dMove mv 0 n).n) (dMove mv 0 n).mv (dMove mv 0 n).sum ≠ 0 from he)]
 exact he
structure Dt (b : Bank) (K M : Nat) (has : Int) (a : Au.Au) : Prop where
 got : Got b K M 0 0 1 has a
 one : Dy.net 1 b.today = a.cap - a.ref
 zero : Dy.net 0 b.today = 0
 days : b.days = []
theorem Dt.step {b : Bank} {K M : Nat} {has : Int} {a : Au.Au} (D : Dt b K M has a) (hM : M ≤ 20) (hK : K ≤ 90) {mv : Int} (n : Int) (hmv : mv = 2 ∨ mv = 5) : ∃ a', Dt (doB b (dMove mv 0 n)).1 (K + 1) (M + 1) has a' := by
 have hau : b.auth 0 = a := by unfold Bank.auth; rw [D.got.auths]; rfl
 by_cases he : Au.mvErr a mv n = 0
 ·obtain ⟨e, G⟩ := D.got.step hM hK he (by omega)
  have ht : (doB b (dMove mv 0 n)).1.today = b.today ++ [⟨1, 0, mv, n⟩] := by
   rw [e]
   show b.today ++ [⟨(b.auth 0).shop, 0, mv, n⟩] = _
   rw [hau, D.got.shop]
  refine ⟨Au.step a mv n, G.more (Nat.le_refl _) (by unfold sends; split <;> omega), ?_, ?_, by rw [e]; exact D.days⟩
  ·have h1 := D.one
   unfold Dy.net at h1 ⊢
   rw [ht, Dy.sumBy_append, h1]
   rcases hmv with rfl | rfl
   ·simp [Dy.sumBy, Dy.netF, Dy.sgn, Au.step]; omega
   ·simp [Dy.sumBy, Dy.netF, Dy.sgn, Au.step]; omega
  ·have h1 := D.zero
   unfold Dy.net at h1 ⊢
   rw [ht, Dy.sumBy_append, h1]
   simp [Dy.sumBy, Dy.netF]
 ·rw [move_no D.got.down (by rw [D.got.auths]; rfl) (by rw [hau]; exact he)]
  exact ⟨a, D.got.more (by omega) (by omega), D.one, D.zero, D.days⟩
theorem Dt.all {has : Int} (l : List Int) : ∀ {b : Bank} {K M : Nat} {a : Au.Au}, Dt b K M has a → K + l.length ≤ 90 → M + l.length ≤ 20 → ∃ a', Dt (run b (l.map dayD)) (K + l.length) (M + l.length) has a' := by
 induction l with
 | nil => intro b K M a D _ _; exact ⟨a, D⟩
 | cons n r ih =>
  intro b K M a D h1 h2
  rw [List.length_cons] at h1 h2
  have h3 : ∃ a', Dt (doB b (dayD n)).1 (K + 1) (M + 1) has a' := by
   unfold dayD
   split
   ·exact D.step (by omega) (by omega) _ (Or.inl rfl)
   ·exact D.step (by omega) (by omega) _ (Or.inr rfl)
  obtain ⟨a', D'⟩ := h3
  obtain ⟨a2, D2⟩ := ih D' (by omega) (by omega)
  refine ⟨a2, ?_⟩
  rw [List.map_cons, run_cons, List.length_cons, show K + (r.length + 1) = K + 1 + r.length by omega, show M + (r.length + 1) = M + 1 + r.length by omega]
  exact D2
end Go.Proofs.YtofcnebekmjdoaaGreatDoor.Bn
