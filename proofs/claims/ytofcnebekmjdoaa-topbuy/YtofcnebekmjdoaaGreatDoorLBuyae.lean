import Derived.Test.YtofcnebekmjdoaaGreatDoorLBuyad
set_option maxHeartbeats 4000000
set_option maxRecDepth 100000
namespace Go.Proofs.YtofcnebekmjdoaaGreatDoor.Bn
open Go.Proofs.YtofcnebekmjdoaaGreatDoor
theorem loads_no {b : Bank} {d : Dd} (h : d.kind ≠ 1) (k : Nat) : loads b d k = 0 := by unfold loads; rw [if_neg (fun x => h x.1)]
theorem pays_no {b : Bank} {d : Dd} (h : d.kind ≠ 11) (k : Nat) : paysOut b d k = 0 := by unfold paysOut; rw [if_neg (fun x => h x.1)]
theorem out_no {b : Bank} {d : Dd} (h : d.kind ≠ 1) (h2 : d.kind ≠ 11) : outD b d = 0 := by unfold outD; simp only [if_neg h, if_neg h2, ite_self]
theorem play_run0 (b : Bank) (ds : List Dd) (h : ∀ d ∈ ds, d.id = 0) : (playL b ds).1 = run b ds := playL_run b [] ds h
theorem start_cbal (ps : List Pa) (n : Nat) (cap : Int) (k : Nat) : cbal k (startB ps n cap) = 0 := by
 unfold cbal
 have h1 : ((startB ps n cap).cards.getD k zeroC).m = 0 := by
  by_cases hk : k < ps.length
  ·simp [startB, List.getD, hk]
  ·simp [startB, List.getD, hk, zeroC]
 rw [h1]
 rfl
theorem got_ask {c s has asked : Int} (hc : c = 0 ∨ c = 1) (hs : s = 0 ∨ s = 1) (h1 : 1 ≤ asked) (h2 : asked ≤ has) (h3 : has ≤ 100000) :
  Got (run (topS 0) [dLoad c has, dAsk c s asked]) 2 0 0 c s has ⟨c, s, asked, 0, 0, 0, 100, false⟩ ∧ (doB (topS 0) (dLoad c has)).2 = (0, 0) ∧ (doB (doB (topS 0) (dLoad c has)).1 (dAsk c s asked)).2 = (0, 0) := by
 have I0 : Inv (topS 0) := top_inv (by decide)
 have B0 : Bound 0 (topS 0) := start_bound _ _ _
 have e1 := load_done (n := c) (sum := has) I0 B0 (by decide) (by omega) (by show c < (2 : Int); omega) (by omega) (by show _ ≤ (0 : Int); decide)
 have cd : (topS 0).card c = ⟨0, 0, paceT, []⟩ := by rcases hc with rfl | rfl <;> rfl
 rw [cd] at e1
 have I1 := do_inv (d := dLoad c has) I0
 have B1 := do_bound (d := dLoad c has) I0 B0
 have A1 := do_accts (d := dLoad c has) I0
 have c1 := do_cbal (d := dLoad c has) I0 c.toNat (by show c.toNat < 2; omega)
 have d1 := fun k => do_bal (d := dLoad c has) I0 k
 have x1 : ∀ k : Nat, k < 2 → (k : Int) ≠ c → cbal k (doB (topS 0) (dLoad c has)).1 = 0 := fun k hk hc => by
  rw [do_cbal (d := dLoad c has) I0 k (by show k < 2; exact hk), show cbal k (topS 0) = 0 from start_cbal _ _ _ _]
  unfold loads
  rw [if_neg (fun h => hc h.2.2.symm)]; rfl
 have hl : loads (topS 0) (dLoad c has) c.toNat = has := by
  unfold loads
  rw [e1, if_pos ⟨rfl, rfl, by show c = ((c.toNat : Nat) : Int); omega⟩]; rfl
 have ho : outD (topS 0) (dLoad c has) = -has := by
  unfold outD
  rw [e1, if_pos rfl, if_pos (show (dLoad c has).kind = 1 from rfl)]; rfl
 rw [show cbal c.toNat (topS 0) = 0 from start_cbal _ _ _ _, hl] at c1
 have A1o := A1.out
 rw [ho, show Bk.getE (topS 0).book 0 = 0 from rfl] at A1o
 have w1 : (doB (topS 0) (dLoad c has)).1.way = (topS 0).way ∧ (doB (topS 0) (dLoad c has)).1.snd = (topS 0).snd ∧ (doB (topS 0) (dLoad c has)).1.auths = [] ∧ (doB (topS 0) (dLoad c has)).1.down = false ∧ (doB (topS 0) (dLoad c has)).1.time = 0 ∧ (doB (topS 0) (dLoad c has)).1.today = [] := by rw [e1]; exact ⟨rfl, rfl, rfl, rfl, rfl, rfl⟩
 obtain ⟨w1, s1, a1, dn1, t1, td1⟩ := w1
 have cd1 : (doB (topS 0) (dLoad c has)).1.card c = ⟨0 + has, 0, paceT, []⟩ := by
  rw [e1]
  exact card_set (topS 0) (topS 0).cards c _ (by show c.toNat < 2; omega)
 have e12 : (doB (topS 0) (dLoad c has)).2 = (0, 0) := by rw [e1]
 have l1 := A1.cards
 have l2 := A1.due
 have r0 : run (topS 0) [dLoad c has, dAsk c s asked] = (doB (doB (topS 0) (dLoad c has)).1 (dAsk c s asked)).1 := rfl
 rw [r0]
 clear r0
 have hb0 : ∀ k, bal k (topS 0) = 0 := fun k => start_bal _ _ _ _
 have hp0 : ∀ k, paysOut (topS 0) (dLoad c has) k = 0 := fun k => pays_no (by show (1 : Int) ≠ 11; decide) k
 generalize doB (topS 0) (dLoad c has) = r1 at *
 generalize r1.1 = b1 at *
 have hlc : b1.cards.length = 2 := l1
 have hld : b1.due.length = 2 := l2
 have ha := add_first (s := asked) (t := 0) (by omega) (by decide)
 have e2 := ask_done (n := c) (shop := s) (sum := asked) I1 dn1 (by omega) (by rw [hlc]; show c < (2 : Int); omega) (by omega) (by rw [hld]; show s < (2 : Int); omega) (by omega) (by rw [a1]; decide) (by rw [cd1]; dsimp only; omega) (by rw [cd1, t1, ha])
 have I2 := do_inv (d := dAsk c s asked) I1
 have B2 := do_bound (d := dAsk c s asked) I1 B1
 have A2 := do_accts (d := dAsk c s asked) I1
 have c2 := do_cbal (d := dAsk c s asked) I1 c.toNat (by omega)
 have d2 := fun k => do_bal (d := dAsk c s asked) I1 k
 rw [loads_no (by show (2 : Int) ≠ 1; decide), c1] at c2
 have A2o := A2.out
 rw [out_no (by show (2 : Int) ≠ 1; decide) (by show (2 : Int) ≠ 11; decide), A1o] at A2o
 refine ⟨⟨I2, B2, ?_, by rw [e2]; exact t1, ?_, by rw [A2.cards, hlc], by rw [A2.due, hld], by omega, fun k hk hn => ?_, fun k => ?_, by omega, fun i => ?_, fun i => ?_, fun i => ?_, ?_, rfl, rfl, hc, hs⟩, e12, ?_⟩
 ·rw [e2]; exact dn1
 ·rw [e2]; dsimp only; rw [a1, t1]; rfl
 ·rw [do_cbal (d := dAsk c s asked) I1 k (by omega), loads_no (by show (2 : Int) ≠ 1; decide), x1 k hk hn]; rfl
 ·rw [d2, pays_no (by show (2 : Int) ≠ 11; decide), d1, hp0, hb0]; rfl
 ·rw [e2]; dsimp only; rw [w1]; rfl
 ·rw [e2]; dsimp only; rw [s1]; show (0 : Nat) ≤ 0; decide
 ·rw [e2]; dsimp only; rw [s1]; show (0 : Int) ≤ 2; decide
 ·rw [e2]; dsimp only; rw [td1]; show (0 : Nat) ≤ 2; decide
 ·rw [e2, a1]; rfl
theorem put_sizes {s : Po.Se} {t : Po.Tr} (h : (Po.putS s t).2 = 0) : (Po.putS s t).1.kept.length = s.kept.length + 1 ∧ (Po.putS s t).1.sent = s.sent + 1 := by
 rw [(put_zero h).1]; simp [Po.outS]
theorem send_sizes {sd : Bool → Po.Se} {k a n : Int} (h : (sendBy sd k a n).2 = 0) (i : Bool) : ((sendBy sd k a n).1 i).kept.length ≤ (sd i).kept.length + sends k ∧ ((sendBy sd k a n).1 i).sent ≤ (sd i).sent + 1 := by
 have key : ∀ (j : Bool) (t : Po.Tr), (Po.putS (sd j) t).2 = 0 → (upd sd j (Po.putS (sd j) t).1 i).kept.length ≤ (sd i).kept.length + 1 ∧ (upd sd j (Po.putS (sd j) t).1 i).sent ≤ (sd i).sent + 1 := by
  intro j t h
  have := put_sizes h
  unfold upd
  split
  ·rename_i e; subst e; omega
  ·omega
 unfold sendBy at h ⊢
 by_cases q1 : k = 2 ∨ k = 3
 ·rw [if_pos q1] at h ⊢; unfold sends; rw [if_pos (by omega)]; exact key _ _ h
 rw [if_neg q1] at h ⊢
 by_cases q2 : k = 5
 ·rw [if_pos q2] at h ⊢; unfold sends; rw [if_pos (by omega)]; exact key _ _ h
 rw [if_neg q2] at h ⊢
 by_cases q3 : k = 7
 ·rw [if_pos q3] at h ⊢; unfold sends; rw [if_pos (by omega)]; exact key _ _ h
 rw [if_neg q3]
 dsimp only
 omega
theorem Got.step {b : Bank} {K M : Nat} {T c s has : Int} {a : Au.Au} (G : Got b K M T c s has a) (hM : M ≤ 20) (hK : K ≤ 90) {mv n : Int} (he : Au.mvErr a mv n = 0) (h1 : mv ≠ 1) : doB b (dMove mv 0 n) = (moveAll b (dMove mv 0 n), 0, 0) ∧ Got (doB b (dMove mv 0 n)).1 (K + 1) (M + sends mv) T c s has (Au.step a mv n) := by
 have hau : b.auth 0 = a := by unfold Bank.auth; rw [G.auths]; rfl
 have hc01 := G.c01
 have hs01 := G.s01
 have e := move_done (mv := mv) (n := 0) (sum := n) G.inv G.bound (by omega) G.down (by decide) (by rw [G.auths]; simp) (by rw [hau]; exact he) (fun h => h1 h.1) (fun i => by have := G.kept i; omega) (fun i => by have := G.sent i; omega) (by have := G.today; omega)
 refine ⟨e, ?_⟩
 have I2 := do_inv (d := dMove mv 0 n) G.inv
 have B2 := do_bound (d := dMove mv 0 n) G.inv G.bound
 have A2 := do_accts (d := dMove mv 0 n) G.inv
 have c2 := do_cbal (d := dMove mv 0 n) G.inv c.toNat (by rw [G.cards]; omega)
 have d2 := fun k => do_bal (d := dMove mv 0 n) G.inv k
 rw [loads_no (by show (3 : Int) ≠ 1; decide)] at c2
 have A2o := A2.out
 rw [out_no (by show (3 : Int) ≠ 1; decide) (by show (3 : Int) ≠ 11; decide)] at A2o
 have may := Au.mvErr_zero.1 he
 have n1 : 1 ≤ n := may.2.2.2.2.1
 have n2 : n ≤ 1000000 := may.2.2.2.2.2.1
 have hsend : (sendBy b.snd mv 0 n).2 = 0 := by
  have hp : ∀ (i : Bool) (k : Int), 1 ≤ k → k ≤ 3 → (Po.putS (b.snd i) ⟨0, k, 0, n⟩).2 = 0 := fun i k a1 a2 => put_ok (G.inv.sent.right i) (by have := G.kept i; omega) (by have := G.sent i; omega) ⟨a1, a2⟩ ⟨by show (0 : Int) ≤ 0; decide, by show (0 : Int) < 30; decide⟩ ⟨n1, n2⟩
  unfold sendBy
  repeat' split
  ·exact hp _ _ (by decide) (by decide)
  ·exact hp _ _ (by decide) (by decide)
  ·exact hp _ _ (by decide) (by decide)
  ·rfl
 obtain ⟨-, -, t3, t4, -⟩ := step_right may
 have cb := G.cb
 have out := G.out
 refine ⟨I2, B2, ?_, by rw [e]; exact G.time, ?_, by rw [A2.cards, G.cards], by rw [A2.due, G.due], by omega, fun k hk hn => ?_, fun k => ?_, by omega, fun i => ?_, fun i => ?_, fun i => ?_, ?_, by rw [t3, G.card], by rw [t4, G.shop], hc01, hs01⟩
 ·rw [e]; exact G.down
 ·rw [e]
  show b.auths.set 0 (Au.step (b.auth 0) mv n) = _
  rw [hau, G.auths]; rfl
 ·rw [do_cbal (d := dMove mv 0 n) G.inv k (by rw [G.cards]; exact hk), loads_no (by show (3 : Int) ≠ 1; decide), G.ob k hk hn]; rfl
 ·rw [d2, pays_no (by show (3 : Int) ≠ 11; decide), G.db]; rfl
 ·rw [e]; exact G.way i
 ·rw [e]
  show ((sendBy b.snd mv 0 n).1 i).kept.length ≤ M + sends mv
  have := (send_sizes hsend i).1
  have := G.kept i
  omega
 ·rw [e]
  show ((sendBy b.snd mv 0 n).1 i).sent ≤ ((K + 1 : Nat) : Int)
  have := (send_sizes hsend i).2
  have := G.sent i
  omega
 ·rw [e]
  show (b.today ++ [_]).length ≤ K + 1
  have := G.today
  rw [List.length_append, List.length_singleton]; omega
theorem Got.now {b : Bank} {K : Nat} {T c s has : Int} {a : Au.Au} (G : Got b K 0 T c s has a) :
  (b.cards.getD c.toNat zeroC).m = has - (a.cap - a.ref - a.dis) ∧ (b.cards.getD c.toNat zeroC).h = Au.holdA a ∧ b.due.getD s.toNat 0 = a.cap - a.ref ∧ Bk.getE b.book 1 = 0 ∧ Bk.getE b.book 2 = -a.dis := by
 have hc01 := G.c01
 have hs01 := G.s01
 have hk : ∀ i, (b.snd i).kept = [] := fun i => List.eq_nil_of_length_eq_zero (by have := G.kept i; omega)
 have hh := G.inv.held.held c.toNat (by rw [G.cards]; omega)
 have hm := G.cb
 have hd := due_end s.toNat (hk false)
 have h1 := G.inv.books.acc1
 have h2 := G.inv.books.acc2
 unfold onWay at h1
 unfold onBack disputed at h2
 unfold cbal at hm
 rw [hk, hk] at h1 h2
 rw [hk true] at hm
 rw [G.auths] at hh hm hd h2
 rw [G.db] at hd
 have hcn : ((c.toNat : Nat) : Int) = c := by omega
 have hsn : ((s.toNat : Nat) : Int) = s := by omega
 have s1 : sumOn (spentBy c.toNat) [a] = a.cap - a.ref - a.dis := by rw [sumOn_one]; unfold spentBy; rw [hcn, if_pos G.card]
 have s2 : sumOn (captBy s.toNat) [a] = a.cap - a.ref := by rw [sumOn_one]; unfold captBy; rw [hsn, if_pos G.shop]
 have s3 : heldOf c.toNat [a] = Au.holdA a := by unfold heldOf; rw [sumOn_one]; unfold heldBy; rw [hcn, if_pos G.card]
 rw [s1] at hm
 rw [s2] at hd
 rw [s3] at hh
 simp only [sumOn] at hm h1 h2
 exact ⟨by omega, hh, by omega, by omega, by omega⟩
theorem Got.come {b : Bank} {K M : Nat} {T c s has : Int} {a : Au.Au} (G : Got b K M T c s has a) (hk : M ≤ 4) (hK : K ≤ 100) : Got (run b (comeL 5)) (K + 24) 0 T c s has a := by
 have hc01 := G.c01
 have C := come_ok (n := 5) G.inv G.bound (by omega) G.way (fun i => by have := G.kept i; omega)
 have I := run_inv G.inv (comeL 5)
 have B := run_bound G.inv G.bound (comeL 5)
 have hl : (comeL 5).length = 24 := by decide
 rw [hl] at B
 refine ⟨I, B, by rw [C.still.plain.down]; exact G.down, by rw [C.still.plain.time]; exact G.time, by rw [C.still.plain.auths]; exact G.auths, by rw [C.still.cards]; exact G.cards, by rw [C.still.due]; exact G.due, ?_, fun k hk hn => ?_, fun k => ?_, ?_, C.way, fun i => by rw [C.kept]; simp, fun i => ?_, ?_, G.card, G.shop, G.c01, G.s01⟩
 ·rw [C.still.cb _ (by rw [G.cards]; omega)]; exact G.cb
 ·rw [C.still.cb _ (by rw [G.cards]; omega)]; exact G.ob k hk hn
 ·rw [C.still.db]; exact G.db k
 ·rw [C.still.out]; exact G.out
 ·rw [C.sent]; have := G.sent i; omega
 ·rw [C.still.plain.today]; have := G.today; omega
theorem mv_ok {a : Au.Au} {k n : Int} (h : Au.wrongA a = 0) (k1 : 1 ≤ k) (k2 : k ≤ 8) (n1 : 1 ≤ n) (n2 : n ≤ 1000000) (hs : ¬ (a.shut = true ∧ k ≤ 4)) (hr : n ≤ Au.room a k) : Au.mvErr a k n = 0 := by
 unfold Au.mvErr
 rw [if_neg (by simpa using h), if_neg (by omega), if_neg (by omega), if_neg hs, if_pos hr]
def buyL (has asked paid : Int) : List Dd := [dLoad 1 has, dAsk 1 1 asked] ++ ([dMove 3 0 paid] ++ (comeL 5 ++ [dPay 1]))
theorem buy_plain {has asked paid : Int} (h1 : 1 ≤ paid) (h2 : paid ≤ asked) (h3 : asked ≤ has) (h4 : has ≤ 100000) :
  ((run (topS 0) (buyL has asked paid)).cards.getD 1 zeroC).m = has - paid ∧ ((run (topS 0) (buyL has asked paid)).cards.getD 1 zeroC).h = 0 ∧ (run (topS 0) (buyL has asked paid)).due.getD 1 0 = 0 ∧ Bk.getE (run (topS 0) (buyL has asked paid)).book 0 = paid - has ∧ Bk.getE (run (topS 0) (buyL has asked paid)).book 1 = 0 := by
 obtain ⟨G2, -, -⟩ := got_ask (c := 1) (s := 1) (has := has) (asked := asked) (Or.inr rfl) (Or.inr rfl) (by omega) h3 h4
 unfold buyL
 rw [run_append, run_append, run_append]
 generalize run (topS 0) [dLoad 1 has, dAsk 1 1 asked] = b2 at *
 have G3 := (G2.step (mv := 3) (n := paid) (by decide) (by decide) (mv_ok G2.right (by decide) (by decide) h1 (by omega) (by simp) (by simp [Au.room]; omega)) (by decide)).2
 rw [show run b2 [dMove 3 0 paid] = (doB b2 (dMove 3 0 paid)).1 from rfl]
 generalize (doB b2 (dMove 3 0 paid)).1 = b3 at *
 have G4 := G3.come (by decide) (by decide)
 generalize run b3 (comeL 5) = b4 at *
 obtain ⟨m, hh, du, t1, -⟩ := G4.now
 have ea : Au.step ⟨1, 1, asked, 0, 0, 0, 100, false⟩ 3 paid = ⟨1, 1, asked, 0 + paid, 0, 0, 100, true⟩ := rfl
 rw [ea] at m hh du
 dsimp only at m du
 have hdo : b4.dueOf 1 = paid := by unfold Bank.dueOf; rw [show (1 : Int).toNat = 1 from rfl, show (1 : Nat) = (1 : Int).toNat from rfl, du]; omega
 have out := G4.out
 have e5 := pay_done (n := 1) G4.inv G4.bound (by decide) (by decide) (by rw [G4.due]; decide) (by omega) (by omega)
 have A5 := do_accts (d := dPay 1) G4.inv
 have I5 := do_inv (d := dPay 1) G4.inv
 have A5o := A5.out
 have ho : outD b4 (dPay 1) = paid := by
  unfold outD
  rw [e5, if_pos rfl, if_neg (show ¬ (dPay 1).kind = 1 by show ¬ ((11 : Int) = 1); decide), if_pos (show (dPay 1).kind = 11 from rfl)]
  exact hdo
 have t5 := I5.books.acc1
 have hk4 : ∀ i, (b4.snd i).kept = [] := fun i => List.eq_nil_of_length_eq_zero (by have := G4.kept i; omega)
 rw [show run b4 [dPay 1] = (doB b4 (dPay 1)).1 from rfl]
 refine ⟨?_, ?_, ?_, by rw [A5o, ho, out]; omega, ?_⟩
 ·rw [e5]; show (b4.cards.getD 1 zeroC).m = _; rw [show (1 : Nat) = (1 : Int).toNat from rfl, m]; omega
 ·rw [e5]; show (b4.cards.getD 1 zeroC).h = _; rw [show (1 : Nat) = (1 : Int).toNat from rfl, hh]; rfl
 ·rw [e5]
  show (b4.due.set (1 : Int).toNat 0).getD 1 0 = 0
  rw [getD_set _ _ _ _ _ (by rw [G4.due]; decide), if_pos (show (1 : Int).toNat = 1 from rfl)]
 ·rw [t5, e5]
  unfold onWay
  show sumOn _ (b4.snd false).kept + sumOn _ (b4.snd true).kept = 0
  rw [hk4, hk4]; rfl
def ansL (b : Bank) : List Dd → List An
 | [] => []
 | d :: r => (doB b d).2 :: ansL (doB b d).1 r
theorem fold_ans (ds : List Dd) : ∀ s : Bank × List (Dd × An), (∀ d ∈ ds, d.id = 0) → (ds.foldl play1 s).2.map (·.2) = s.2.map (·.2) ++ ansL s.1 ds := by
 induction ds with
 | nil => intro s _; simp [ansL]
 | cons d r ih =>
  intro s h
  have h0 : d.id = 0 := h d List.mem_cons_self
  have e : play1 s d = ((doB s.1 d).1, s.2 ++ [(d, ((doB s.1 d).2.1, (doB s.1 d).2.2))]) := by
   unfold play1
   rw [if_pos h0]
  rw [List.foldl_cons, ih _ (fun x hx => h x (List.mem_cons_of_mem _ hx)), e]
  simp [ansL]
theorem play_ans (b : Bank) (ds : List Dd) (h : ∀ d ∈ ds, d.id = 0) : (playL b ds).2.map (·.2) = ansL b ds := by
 have := fold_ans ds (b, []) h
 simpa [playL] using this
open Go.RowKit Go.Proofs.YtofcnebekmjdoaaGreatDoor.Gn Go.Maps
theorem playR_top {cap : Int} (hc : 0 ≤ cap ∧ cap ≤ 1000000) {l : List Dd} (h0 : ∀ d ∈ l, d.id = 0) (hl : l.length ≤ 150) : playR psT 2 cap l = (run (topS cap) l, ansL (topS cap) l, (0, 0)) := by
 have hE : setErr psT 2 cap = (0, 0) := by
  unfold setErr
  rw [if_neg (by decide), if_neg (by omega)]
  kernel_rfl
 unfold playR
 rw [hE, if_neg (by simp), if_neg (by omega), ← play_run0 _ _ h0, ← play_ans _ _ h0]
 rfl
theorem run_lens {b : Bank} (I : Inv b) (l : List Dd) : (run b l).cards.length = b.cards.length ∧ (run b l).due.length = b.due.length := by
 induction l generalizing b with
 | nil => exact ⟨rfl, rfl⟩
 | cons d r ih =>
  rw [run_cons]
  have A := do_accts (d := d) I
  have I' : Inv (doB b d).1 := run_inv I [d]
  exact ⟨(ih I').1.trans A.cards, (ih I').2.trans A.due⟩
theorem card_at {W : World} {b : Bank} {v : Vs} {cs : List CV} {ds : List DV} (SH : Shows W b v cs ds) {n k : Nat} (hn : b.cards.length = n) (hk : k < n) :
  ∃ (z o c : Nat) (x : CV), x.c = b.cards.getD k zeroC ∧ v.c = .slice (some ⟨z, o, none⟩) n c ∧ (∀ j u, (kC.cells x)[j]? = some u → W.cell? ⟨z, o + k * 6 + j, none⟩ = some u) := by
 have hcs := SH.csv
 have hlen : cs.length = n := by rw [← hn, ← hcs, List.length_map]
 obtain ⟨a, c, h1, l1⟩ := SH.cards.lies
 obtain ⟨z, o, rfl, -, hf⟩ := l1.elem (i := k) (x := cs.getD k zCV) (by simp [List.getD, show k < cs.length by omega])
 refine ⟨z, o, c, cs.getD k zCV, ?_, by rw [h1, hlen], hf⟩
 rw [← hcs]
 simp [List.getD, show k < cs.length by omega]
theorem due_at {W : World} {b : Bank} {v : Vs} {cs : List CV} {ds : List DV} (SH : Shows W b v cs ds) {n k : Nat} (hn : b.due.length = n) (hk : k < n) :
  ∃ (z o c : Nat), v.d = .slice (some ⟨z, o, none⟩) n c ∧ W.cell? ⟨z, o + k, none⟩ = some (.int .i64 (b.due.getD k 0)) := by
 obtain ⟨a, c, h1, l1⟩ := SH.due.lies
 obtain ⟨z, o, rfl, -, hf⟩ := l1.elem (i := k) (x := b.due.getD k 0) (by simp [List.getD, show k < b.due.length by omega])
 have := hf 0 _ rfl
 dsimp only [kI] at this
 exact ⟨z, o, c, by rw [h1, hn], by simpa using this⟩
theorem small_three {x y z : Int} (h : smallB [x, y, z] = true) : 1 ≤ x ∧ x ≤ 100000 ∧ 1 ≤ y ∧ y ≤ 100000 ∧ 1 ≤ z ∧ z ≤ 100000 := by
 unfold smallB at h
 simp at h
 omega
open Go.RowKit Go.Proofs.YtofcnebekmjdoaaGreatDoor.Gn Go.Maps
def buy3 (has asked paid : Int) : List Dd := [⟨0, 1, 1, 0, 0, has⟩, ⟨0, 2, 1, 1, 0, asked⟩, ⟨0, 3, 0, 0, 3, paid⟩]
theorem buy_list (has asked paid : Int) : (buy3 has asked paid ++ comeL 5) ++ [⟨0, 11, 1, 0, 0, 0⟩] = buyL has asked paid := by
 unfold buyL buy3
 simp [dLoad, dAsk, dMove, dPay]
theorem buy_ids (has asked paid : Int) : ∀ d ∈ buyL has asked paid, d.id = 0 := by
 intro d hd
 rw [← buy_list] at hd
 rcases List.mem_append.1 hd with h | h
 ·rcases List.mem_append.1 h with h | h
  ·simp [buy3] at h; rcases h with rfl | rfl | rfl <;> rfl
  ·exact come0 d h
 ·simp at h; rw [h]
theorem buy_len (has asked paid : Int) : (buyL has asked paid).length = 28 := by
 rw [← buy_list, List.length_append, List.length_append, come_len]; rfl
theorem buy_facts {has asked paid : Int} (h1 : 1 ≤ paid) (h2 : paid ≤ asked) (h3 : asked ≤ has) (h4 : has ≤ 100000) {W W' : World} {v : Vs} {cs : List CV} {ds : List DV} (SH : Shows W (run (topS 0) (buyL has asked paid)) v cs ds) (hb : Below W.heap.size W W') :
  ∃ (z2 o2 c2 z3 o3 c3 : Nat) (a4 : Option Addr) (n4 c4 : Nat), v.c = .slice (some ⟨z3, o3, none⟩) 2 c3 ∧ W'.cell? ⟨z3, o3 + 6, none⟩ = some (.int .i64 (has - paid)) ∧ W'.cell? ⟨z3, o3 + 7, none⟩ = some (.int .i64 0) ∧ v.d = .slice (some ⟨z2, o2, none⟩) 2 c2 ∧ W'.cell? ⟨z2, o2 + 1, none⟩ = some (.int .i64 0) ∧ v.bk = .slice a4 n4 c4 ∧
   (∀ Y, Below W'.heap.size W' Y → Calls Tryz.prog 25 #[.slice a4 n4 c4, .int .i64 0] Y fun e w' => e = .returned (.int .i64 (paid - has)) ∧ Below Y.heap.size Y w') ∧
   (∀ Y, Below W'.heap.size W' Y → Calls Tryz.prog 25 #[.slice a4 n4 c4, .int .i64 1] Y fun e w' => e = .returned (.int .i64 0) ∧ Below Y.heap.size Y w') := by
 obtain ⟨p1, p2, p3, p4, p5⟩ := buy_plain h1 h2 h3 h4
 have I : Inv (topS 0) := top_inv (by decide)
 have hlen := run_lens I (buyL has asked paid)
 have I2 := run_inv I (buyL has asked paid)
 have S2 := SH.below hb
 obtain ⟨z3, o3, c3, x, hx, hv, f3⟩ := card_at S2 (n := 2) (k := 1) (hlen.1.trans rfl) (by decide)
 obtain ⟨z2, o2, c2, hd, f2⟩ := due_at S2 (n := 2) (k := 1) (hlen.2.trans rfl) (by decide)
 obtain ⟨a4, c4, hk, l4⟩ := S2.book.lies
 have x0 := f3 0 _ rfl
 have x1 := f3 1 _ rfl
 rw [hx, p1] at x0
 rw [hx, p2] at x1
 rw [p3] at f2
 refine ⟨z2, o2, c2, z3, o3, c3, a4, _, c4, hv, x0, x1, hd, f2, hk, fun Y hY => ?_, fun Y hY => ?_⟩
 ·have := Bk.get_any a4 c4 (run (topS 0) (buyL has asked paid)).book 0 Y (lies_ents (l4.below hY))
  rw [p4] at this
  exact this
 ·have := Bk.get_any a4 c4 (run (topS 0) (buyL has asked paid)).book 1 Y (lies_ents (l4.below hY))
  rw [p5] at this
  exact this
theorem buy_any (has asked paid : Int) (w : World) (_ : -9223372036854775808 ≤ has ∧ has ≤ 9223372036854775807) (_ : -9223372036854775808 ≤ asked ∧ asked ≤ 9223372036854775807) (_ : -9223372036854775808 ≤ paid ∧ paid ≤ 9223372036854775807) (O : Oth w) :
  Calls Tryz.prog 11 #[.int .i64 has, .int .i64 asked, .int .i64 paid] w fun e w' => e = .returned (.bool true) ∧ Below w.heap.size w w' := by
 have hA := talive_any w O
 have hS := fun (X : World) => tsetup_any 0 X
 have hD := fun (k n s : Int) (X : World) => tdo_any k n s X
 have hM := fun (k n s : Int) (X : World) => tmove_any k n s X
 unfold ddv at hD hM
 go_enter Tryz.func11, Tryz.ntmps11
 go_upto_region 1 with fail
 go_upto_region 2 with fail
 refine hA.mono ?_
 rintro _ w1 ⟨rfl, hb1⟩
 clear hA
 have e2 := below_alloc w1 (.cells #[.int .i64 has, .int .i64 asked, .int .i64 paid] 3)
 have hl2 : Gn.Lies kI (w1.alloc (.cells #[.int .i64 has, .int .i64 asked, .int .i64 paid] 3)) (some ⟨w1.heap.size, 0, none⟩) 3 [has, asked, paid] := lies_blk (K := kI) (L := [has, asked, paid]) (heap_alloc_at _ _ _ rfl) rfl (by simp [maxLen]) _
 have hSm := small_any _ _ _ _ hl2
 have hb2 := hb1.trans (e2.mono hb1.size)
 have hl2' : [has, asked, paid].length = 3 := rfl
 rw [hl2'] at hSm
 have hsm := @small_three has asked paid
 generalize smallB [has, asked, paid] = sm at *
 clear e2 hl2 hl2'
 go_upto_region 3 with fail
 go_upto_region 4 with fail
 refine hSm.mono ?_
 rintro _ w3 ⟨rfl, hb3⟩
 have hbw : Below w.heap.size w w3 := hb2.trans (hb3.mono hb2.size)
 clear hSm hb1 hb2 hb3
 cases sm with
 | false =>
  clear hS hD hM
  go_wp2_with fail
  exact bodyPost_ret (results_tmp Tryz.results11 _ _ _) rfl ⟨rfl, hbw⟩
 | true =>
  have hsm' := hsm rfl
  clear hsm
  by_cases c2 : has < asked
  ·clear hS hD hM
   go_wp2_with fail
   exact bodyPost_ret (results_tmp Tryz.results11 _ _ _) rfl ⟨rfl, hbw⟩
  by_cases c3 : asked < paid
  ·clear hS hD hM
   go_wp2_with fail
   exact bodyPost_ret (results_tmp Tryz.results11 _ _ _) rfl ⟨rfl, hbw⟩
  have hC := fun (X : World) (v : Value) (base : Nat) (h1 : Row kDd 74 X base v (buy3 has asked paid)) (h2 : base ≤ X.heap.size) => come_any v (buy3 has asked paid) base X h1 h2 (by simp [buy3])
  have hP := fun (W : World) (a : Option Addr) (c : Nat) (al : Option Addr) (cl : Nat) (h : Gn.Lies kPa W a c psT) (hd : Gn.Lies kDd W al cl (buyL has asked paid)) (hO : Oth W) => play_any psT a c 2 0 al cl (buyL has asked paid) W h hd (fit0 (buy_ids has asked paid)) hO
  have hF := fun (W W' : World) (v : Vs) (cs : List CV) (ds : List DV) SH hb => buy_facts (has := has) (asked := asked) (paid := paid) (W := W) (W' := W') (v := v) (cs := cs) (ds := ds) hsm'.2.2.2.2.1 (by omega) (by omega) hsm'.2.1 SH hb
  rw [playR_top (by decide) (buy_ids has asked paid) (by rw [buy_len]; decide), show psT.length = 2 from rfl, buy_len] at hP
  unfold Plays at hP
  dsimp only at hP
  generalize run (topS 0) (buyL has asked paid) = b at *
  generalize ansL (topS 0) (buyL has asked paid) = A at *
  simp only [bkv_cells] at hP
  unfold suv at hS hP
  unfold Dy.fv at hP
  go_upto_region 5 with fail
  go_upto_region 6 with fail
  refine (hD _ _ _ _).mono ?_
  rintro _ w4 ⟨rfl, hb4⟩
  go_upto_region 6 with fail
  refine (hM _ _ _ _).mono ?_
  rintro _ w5 ⟨rfl, hb5⟩
  have hb35 := hb4.trans (hb5.mono hb4.size)
  have e6 := below_alloc w5 (.cells #[.int .i64 0, .int .i64 1, .int .i64 1, .int .i64 0, .int .i64 0, .int .i64 has, .int .i64 0, .int .i64 2, .int .i64 1, .int .i64 1, .int .i64 0, .int .i64 asked, .int .i64 0, .int .i64 3, .int .i64 0, .int .i64 0, .int .i64 3, .int .i64 paid] 74)
  have hd6 : Gn.Lies kDd (w5.alloc (.cells #[.int .i64 0, .int .i64 1, .int .i64 1, .int .i64 0, .int .i64 0, .int .i64 has, .int .i64 0, .int .i64 2, .int .i64 1, .int .i64 1, .int .i64 0, .int .i64 asked, .int .i64 0, .int .i64 3, .int .i64 0, .int .i64 0, .int .i64 3, .int .i64 paid] 74)) (some ⟨w5.heap.size, 0, none⟩) 3 (buy3 has asked paid) := lies_blk (K := kDd) (L := buy3 has asked paid) (heap_alloc_at _ _ _ rfl) rfl (by simp [buy3, maxLen]) _
  have hR6 : Row kDd 74 (w5.alloc (.cells #[.int .i64 0, .int .i64 1, .int .i64 1, .int .i64 0, .int .i64 0, .int .i64 has, .int .i64 0, .int .i64 2, .int .i64 1, .int .i64 1, .int .i64 0, .int .i64 asked, .int .i64 0, .int .i64 3, .int .i64 0, .int .i64 0, .int .i64 3, .int .i64 paid] 74)) w5.heap.size (.slice (some ⟨w5.heap.size, 0, none⟩) 3 3) (buy3 has asked paid) := Row.full (L := buy3 has asked paid) w5.heap.size (Nat.le_refl _) hd6 (by simp)
  have hC6 := hC _ _ _ hR6 (by simp)
  have hbw5 := hbw.trans (hb35.mono hbw.size)
  clear hC hR6 hd6 hM hb4 hb5 hb35 hbw
  go_upto_region 6 with fail
  refine hC6.mono ?_
  rintro _ w7 ⟨v7, rfl, C7⟩
  have hbw7 : Below w.heap.size w w7 := hbw5.trans ((e6.trans C7.bel).mono hbw5.size)
  have hlen : (buy3 has asked paid ++ comeL 5).length = 27 := by rw [List.length_append, come_len]; rfl
  clear hC6 e6
  go_upto_region 6 with fail
  go_upto_region 7 with fail
  refine (hS _).mono ?_
  rintro _ w8 ⟨za, c, rfl, hl, hb8, hza⟩
  go_upto_region 7 with fail
  refine (hD _ _ _ _).mono ?_
  rintro _ w9 ⟨rfl, hb9⟩
  have e10 := below_alloc w9 (.cells #[.int .i64 0, .int .i64 11, .int .i64 1, .int .i64 0, .int .i64 0, .int .i64 0] 74)
  have hone : Gn.Lies kDd (w9.alloc (.cells #[.int .i64 0, .int .i64 11, .int .i64 1, .int .i64 0, .int .i64 0, .int .i64 0] 74)) (some ⟨w9.heap.size, 0, none⟩) 1 [⟨0, 11, 1, 0, 0, 0⟩] := lies_blk (K := kDd) (L := [⟨0, 11, 1, 0, 0, 0⟩]) (heap_alloc_at _ _ _ rfl) rfl (by simp [maxLen]) _
  have hb79 := hb8.trans (hb9.mono hb8.size)
  have hbX := hb79.trans (e10.mono hb79.size)
  have hb810 := hb9.trans (e10.mono hb9.size)
  have hrow := C7.row.below hbX
  have hsz := Nat.le_trans C7.size hbX.size
  have hl10 := hl.below hb810
  have hbw10 : Below w.heap.size w _ := hbw7.trans (hbX.mono hbw7.size)
  have hw5 := hbw5.size
  clear hl hb8 hb9 e10 hb79 hb810 hS hD
  have hne : ∀ ad, (some (⟨za, 0, none⟩ : Addr)) = some ad → v7.ownBlock ≠ some ad.block := fun ad h e => by
   cases h
   have := (C7.row.block_lt _ e).2
   dsimp only at this
   omega
  clear C7 hbw5 hbw7
  go_upto_region 7 with (first
   | (at_builtin; refine wpList_append elemDd _ rfl _ _ rfl w5.heap.size v7 (buy3 has asked paid ++ comeL 5) rfl hrow _ 1 1 [⟨0, 11, 1, 0, 0, 0⟩] rfl rfl hone (by rw [hlen]; simp [maxLen]) (by rw [hlen]; simp) hsz ?_; intro v11 w11 hown hgrow hat hon; have hbw11 := below_grown hbw10 hgrow hrow hw5 (Nat.le_trans hw5 hsz); have hl11 := hl10.grown hgrow hne; rw [buy_list] at hown; obtain ⟨al, cl, rfl, hd11, -⟩ := hown.lies; have hP1 := hP w11 _ _ _ _ hl11 hd11 (O.keep (hbw11.block 0 O.lt)); rw [buy_len]; clear hP hl11 hl10 hd11 hown hgrow hat hon hrow hone hsz hbX hne hbw10)
   | (go_at_call 18; refine hP1.mono ?_; rintro _ w2 ⟨v, cs, ds, va, rfl, SH, AP, hb3⟩; obtain ⟨G1, G2, G3, G4, G5⟩ := got_box w2 #[.int .i64 0, .bool false, .slice none 0 0, .slice none 0 0, .slice none 0 0, .int .i64 0, .slice none 0 0, .int .i64 0, .slice none 0 0, .int .i64 0, .int .i64 0, .slice none 0 0, .slice none 0 0, .int .i64 0, .slice none 0 0, .slice none 0 0, .slice none 0 0, .slice none 0 0, .slice none 0 0] rfl b v (0, 0); have hF1 := hF _ _ _ _ _ SH G5; replace G3 := bko_cells G3; obtain ⟨t0, t1, t2, t3⟩ := fo_cells G2; obtain ⟨y0, y1, y2, y3⟩ := fo_cells G4; have hone := hid SH.one; have hinf : Hid ((Tryz.prog.info? 43).map (·.size) = some (cellsK b v).size) := hid infoK; have hb4 : Below w.heap.size w _ := (hbw11.trans (hb3.mono hbw11.size)).trans (G5.mono ((hbw11.trans (hb3.mono hbw11.size)).size)); dsimp only at t0 t1 y0 y1 G3 hb4 hF1; clear G4 G5 SH AP G2 hP1 hF; generalize cellsK b v = cc at *)
   | (refine wpList_store_mid rfl 43 _ _ rfl w2.heap.size 0 cc rfl rfl G1 hinf.out hone.out ?_))
  generalize ((((w2.alloc (.cells #[.int .i64 0, .bool false, .slice none 0 0, .slice none 0 0, .slice none 0 0, .int .i64 0, .slice none 0 0, .int .i64 0, .slice none 0 0, .int .i64 0, .int .i64 0, .slice none 0 0, .slice none 0 0, .int .i64 0, .slice none 0 0, .slice none 0 0, .slice none 0 0, .slice none 0 0, .slice none 0 0] 43)).alloc (.cells #[.int .i64 0, .int .i64 0] 47)).setCells w2.heap.size 0 cc.toList).setCell ⟨w2.heap.size + 1, 0, none⟩ (.int .i64 0)).setCell ⟨w2.heap.size + 1, 1, none⟩ (.int .i64 0) = Z at *
  obtain ⟨z2, o2, c2', z3, o3, c3', a4, n4, c4, hvc, f1, f2, hvd, f3, hvb, hg0, hg1⟩ := hF1
  obtain ⟨-, -, q2, q3, -, -, -, -, -, -, -, -, -, -, -, -, -, -, q18⟩ := G3
  rw [hvc] at q2
  rw [hvd] at q3
  rw [hvb] at q18
  clear hvc hvd hvb G1 t0 t1 t2 t3 hb3 hbw11 hone hinf
  go_wp2_with fail
  refine (hg0 _ (Below.refl _ _)).mono ?_
  rintro _ w12 ⟨rfl, hb12⟩
  have q18' : w12.cell? ⟨w2.heap.size, 18, none⟩ = some (.slice a4 n4 c4) := (hb12.cell (p := ⟨w2.heap.size, 18, none⟩) (cell_lt q18)).trans q18
  go_wp2_with fail
  refine (hg1 _ hb12).mono ?_
  rintro _ w13 ⟨rfl, hb13⟩
  have hbf := (hb4.trans (hb12.mono hb4.size)).trans (hb13.mono (Nat.le_trans hb4.size hb12.size))
  go_wp2_with fail
  exact bodyPost_ret (results_tmp Tryz.results11 _ _ _) rfl ⟨by simp, hbf⟩
def given (count : Int) (i : Nat) : Nat := min i count.toNat
def dayD (n : Int) : Dd := if 0 < n then dMove 2 0 n else dMove 5 0 (-(max n (-1000000)))
theorem Got.more {b : Bank} {K M K2 M2 : Nat} {T c s has : Int} {a : Au.Au} (G : Got b K M T c s has a) (hK : K ≤ K2) (hM : M ≤ M2) : Got b K2 M2 T c s has a :=
 ⟨G.inv, G.bound.mono hK, G.down, G.time, G.auths, G.cards, G.due, G.cb, G.ob, G.db, G.out, G.way, fun i => Nat.le_trans (G.kept i) hM, fun i => by have := G.sent i; omega, Nat.le_trans G.today hK, G.card, G.shop, G.c01, G.s01⟩
theorem move_no {b : Bank} {mv n : Int} (hd : b.down = false) (ha : b.auths.length = 1) (he : Au.mvErr (b.auth 0) mv n ≠ 0) : (doB b (dMove mv 0 n)).1 = b := by
 refine doB_refused b _ ?_
 show (moveD b (dMove mv 0 n)).2 ≠ 0
 unfold moveD
 rw [if_neg (by rw [hd]; simp), if_neg (by show ¬ ((0 : Int) < 0 ∨ _ ≤ (0 : Int)); rw [ha]; omega), if_pos (show Au.mvErr (b.auth (dMove mv 0 n).n) (dMove mv 0 n).mv (dMove mv 0 n).sum ≠ 0 from he)]
 exact he
structure Dt (b : Bank) (K M : Nat) (has : Int) (a : Au.Au) : Prop where
 got : Got b K M 0 0 1 has a
 one : Dy.net 1 b.today = a.cap - a.ref
 zero : Dy.net 0 b.today = 0
 days : b.days = []
theorem Dt.step {b : Bank} {K M : Nat} {has : Int} {a : Au.Au} (D : Dt b K M has a) (hM : M ≤ 20) (hK : K ≤ 90) {mv : Int} (n : Int) (hmv : mv = 2 ∨ mv = 5) : ∃ a', Dt (doB b (dMove mv 0 n)).1 (K + 1) (M + 1) has a' := by
 have hau : b.auth 0 = a := by unfold Bank.auth; rw [D.got.auths]; rfl
 by_cases he : Au.mvErr a mv n = 0
 ·obtain ⟨e, G⟩ := D.got.step hM hK he (by omega)
  have ht : (doB b (dMove mv 0 n)).1.today = b.today ++ [⟨1, 0, mv, n⟩] := by
   rw [e]
   show b.today ++ [⟨(b.auth 0).shop, 0, mv, n⟩] = _
   rw [hau, D.got.shop]
  refine ⟨Au.step a mv n, G.more (Nat.le_refl _) (by unfold sends; split <;> omega), ?_, ?_, by rw [e]; exact D.days⟩
  ·have h1 := D.one
   unfold Dy.net at h1 ⊢
   rw [ht, Dy.sumBy_append, h1]
   rcases hmv with rfl | rfl
   ·simp [Dy.sumBy, Dy.netF, Dy.sgn, Au.step]; omega
   ·simp [Dy.sumBy, Dy.netF, Dy.sgn, Au.step]; omega
  ·have h1 := D.zero
   unfold Dy.net at h1 ⊢
   rw [ht, Dy.sumBy_append, h1]
   simp [Dy.sumBy, Dy.netF]
 ·rw [move_no D.got.down (by rw [D.got.auths]; rfl) (by rw [hau]; exact he)]
  exact ⟨a, D.got.more (by omega) (by omega), D.one, D.zero, D.days⟩
theorem Dt.all {has : Int} (l : List Int) : ∀ {b : Bank} {K M : Nat} {a : Au.Au}, Dt b K M has a → K + l.length ≤ 90 → M + l.length ≤ 20 → ∃ a', Dt (run b (l.map dayD)) (K + l.length) (M + l.length) has a' := by
 induction l with
 | nil => intro b K M a D _ _; exact ⟨a, D⟩
 | cons n r ih =>
  intro b K M a D h1 h2
  rw [List.length_cons] at h1 h2
  have h3 : ∃ a', Dt (doB b (dayD n)).1 (K + 1) (M + 1) has a' := by
   unfold dayD
   split
   ·exact D.step (by omega) (by omega) _ (Or.inl rfl)
   ·exact D.step (by omega) (by omega) _ (Or.inr rfl)
  obtain ⟨a', D'⟩ := h3
  obtain ⟨a2, D2⟩ := ih D' (by omega) (by omega)
  refine ⟨a2, ?_⟩
  rw [List.map_cons, run_cons, List.length_cons, show K + (r.length + 1) = K + 1 + r.length by omega, show M + (r.length + 1) = M + 1 + r.length by omega]
  exact D2
theorem log_len (b : Bank) (l : List Dd) : (playL b l).2.length = l.length := by
 have := congrArg List.length (playL_log b l)
 rwa [List.length_map] at this
theorem told_at (b : Bank) (l : List Dd) {i : Nat} (hi : i < l.length) (h0 : (l.getD i zD).id ≠ 0) : told (l.getD i zD).id (playL b l).2 = some (((playL b l).2.map (·.2)).getD i (0, 0)) := by
 have hi' : i < (playL b l).2.length := by rw [log_len]; exact hi
 have h1 : ((playL b l).2[i]).1 = l.getD i zD := by
  have : ((playL b l).2.map (·.1))[i]? = l[i]? := by rw [playL_log]
  rw [List.getElem?_map, List.getElem?_eq_getElem hi', List.getElem?_eq_getElem hi] at this
  simpa [List.getD, hi] using this
 have := first_playL b l ((playL b l).2[i]) (List.getElem_mem hi') (by rw [h1]; exact h0)
 rw [h1] at this
 rw [this]
 simp [List.getD, hi']
structure Sd (m all : List Dd) : Prop where
 ids : ∀ j, j < m.length → (m.getD j zD).id = (j : Int) + 1
 like : ∀ b, Alike (playL b m) (playL b all)
 mem : ∀ i, i < all.length → ∃ j, j < m.length ∧ all.getD i zD = m.getD j zD
theorem getD_snoc {l : List Dd} {d : Dd} {i : Nat} : (l ++ [d]).getD i zD = if i < l.length then l.getD i zD else if i = l.length then d else zD := by
 by_cases h : i < l.length
 ·rw [if_pos h, List.getD_eq_getElem?_getD, List.getElem?_append_left h, List.getD_eq_getElem?_getD]
 ·rw [if_neg h]
  by_cases h2 : i = l.length
  ·rw [if_pos h2, h2]; simp [List.getD]
  ·rw [if_neg h2]
   have : (l ++ [d])[i]? = none := by rw [List.getElem?_eq_none_iff]; simp; omega
   simp [List.getD, this]
theorem Sd.again {m all : List Dd} (S : Sd m all) {k : Nat} (hk : k < m.length) : Sd m (all ++ [m.getD k zD]) := by
 have h0 : (m.getD k zD).id ≠ 0 := by rw [S.ids k hk]; omega
 refine ⟨S.ids, fun b => ?_, fun i hi => ?_⟩
 ·rw [playL_snoc]
  refine (S.like b).again h0 (a := ((playL b m).2.map (·.2)).getD k (0, 0)) ?_
  rw [← (S.like b).told _ h0]
  exact told_at b m hk h0
 ·rw [List.length_append, List.length_singleton] at hi
  rw [getD_snoc]
  split
  ·rename_i h; exact S.mem i h
  ·rw [if_pos (by omega)]; exact ⟨k, hk, rfl⟩
theorem Sd.tell {m all : List Dd} (S : Sd m all) (b : Bank) {i : Nat} (hi : i < all.length) : ∃ j, j < m.length ∧ (all.getD i zD).id = (j : Int) + 1 ∧ ((playL b all).2.map (·.2)).getD i (0, 0) = ((playL b m).2.map (·.2)).getD j (0, 0) := by
 obtain ⟨j, h1, h2⟩ := S.mem i hi
 have h0 : (m.getD j zD).id ≠ 0 := by rw [S.ids j h1]; omega
 refine ⟨j, h1, by rw [h2]; exact S.ids j h1, ?_⟩
 have e1 := told_at b all hi (by rw [h2]; exact h0)
 have e2 := told_at b m h1 h0
 rw [h2, ← (S.like b).told _ h0, e2] at e1
 exact (Option.some.inj e1).symm
end Go.Proofs.YtofcnebekmjdoaaGreatDoor.Bn
