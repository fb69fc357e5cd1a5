import Derived.Test.YtofcnebekmjdoaaGreatDoorLDispad
set_option maxHeartbeats 4000000
set_option maxRecDepth 100000
namespace Go.Proofs.YtofcnebekmjdoaaGreatDoor.Bn
open Go.Proofs.YtofcnebekmjdoaaGreatDoor
theorem loads_no {b : Bank} {d : Dd} (h : d.kind ≠ 1) (k : Nat) : loads b d k = 0 := by unfold loads; rw [if_neg (fun x => h x.1)]
theorem pays_no {b : Bank} {d : Dd} (h : d.kind ≠ 11) (k : Nat) : paysOut b d k = 0 := by unfold paysOut; rw [if_neg (fun x => h x.1)]
theorem out_no {b : Bank} {d : Dd} (h : d.kind ≠ 1) (h2 : d.kind ≠ 11) : outD b d = 0 := by unfold outD; simp only [if_neg h, if_neg h2, ite_self]
theorem play_run0 (b : Bank) (ds : List Dd) (h : ∀ d ∈ ds, d.id = 0) : (playL b ds).1 = run b ds := playL_run b [] ds h
theorem start_cbal (ps : List Pa) (n : Nat) (cap : Int) (k : Nat) : cbal k (startB ps n cap) = 0 := by
 unfold cbal
 have h1 : ((startB ps n cap).cards.getD k zeroC).m = 0 := by
  by_cases hk : k < ps.length
  ·simp [startB, List.getD, hk]
  ·simp [startB, List.getD, hk, zeroC]
 rw [h1]
 rfl
theorem got_ask {c s has asked : Int} (hc : c = 0 ∨ c = 1) (hs : s = 0 ∨ s = 1) (h1 : 1 ≤ asked) (h2 : asked ≤ has) (h3 : has ≤ 100000) :
  Got (run (topS 0) [dLoad c has, dAsk c s asked]) 2 0 0 c s has ⟨c, s, asked, 0, 0, 0, 100, false⟩ ∧ (doB (topS 0) (dLoad c has)).2 = (0, 0) ∧ (doB (doB (topS 0) (dLoad c has)).1 (dAsk c s asked)).2 = (0, 0) := by
 have I0 : Inv (topS 0) := top_inv (by decide)
 have B0 : Bound 0 (topS 0) := start_bound _ _ _
 have e1 := load_done (n := c) (sum := has) I0 B0 (by decide) (by omega) (by show c < (2 : Int); omega) (by omega) (by show _ ≤ (0 : Int); decide)
 have cd : (topS 0).card c = ⟨0, 0, paceT, []⟩ := by rcases hc with rfl | rfl <;> rfl
 rw [cd] at e1
 have I1 := do_inv (d := dLoad c has) I0
 have B1 := do_bound (d := dLoad c has) I0 B0
 have A1 := do_accts (d := dLoad c has) I0
 have c1 := do_cbal (d := dLoad c has) I0 c.toNat (by show c.toNat < 2; omega)
 have d1 := fun k => do_bal (d := dLoad c has) I0 k
 have x1 : ∀ k : Nat, k < 2 → (k : Int) ≠ c → cbal k (doB (topS 0) (dLoad c has)).1 = 0 := fun k hk hc => by
  rw [do_cbal (d := dLoad c has) I0 k (by show k < 2; exact hk), show cbal k (topS 0) = 0 from start_cbal _ _ _ _]
  unfold loads
  rw [if_neg (fun h => hc h.2.2.symm)]; rfl
 have hl : loads (topS 0) (dLoad c has) c.toNat = has := by
  unfold loads
  rw [e1, if_pos ⟨rfl, rfl, by show c = ((c.toNat : Nat) : Int); omega⟩]; rfl
 have ho : outD (topS 0) (dLoad c has) = -has := by
  unfold outD
  rw [e1, if_pos rfl, if_pos (show (dLoad c has).kind = 1 from rfl)]; rfl
 rw [show cbal c.toNat (topS 0) = 0 from start_cbal _ _ _ _, hl] at c1
 have A1o := A1.out
 rw [ho, show Bk.getE (topS 0).book 0 = 0 from rfl] at A1o
 have w1 : (doB (topS 0) (dLoad c has)).1.way = (topS 0).way ∧ (doB (topS 0) (dLoad c has)).1.snd = (topS 0).snd ∧ (doB (topS 0) (dLoad c has)).1.auths = [] ∧ (doB (topS 0) (dLoad c has)).1.down = false ∧ (doB (topS 0) (dLoad c has)).1.time = 0 ∧ (doB (topS 0) (dLoad c has)).1.today = [] := by rw [e1]; exact ⟨rfl, rfl, rfl, rfl, rfl, rfl⟩
 obtain ⟨w1, s1, a1, dn1, t1, td1⟩ := w1
 have cd1 : (doB (topS 0) (dLoad c has)).1.card c = ⟨0 + has, 0, paceT, []⟩ := by
  rw [e1]
  exact card_set (topS 0) (topS 0).cards c _ (by show c.toNat < 2; omega)
 have e12 : (doB (topS 0) (dLoad c has)).2 = (0, 0) := by rw [e1]
 have l1 := A1.cards
 have l2 := A1.due
 have r0 : run (topS 0) [dLoad c has, dAsk c s asked] = (doB (doB (topS 0) (dLoad c has)).1 (dAsk c s asked)).1 := rfl
 rw [r0]
 clear r0
 have hb0 : ∀ k, bal k (topS 0) = 0 := fun k => start_bal _ _ _ _
 have hp0 : ∀ k, paysOut (topS 0) (dLoad c has) k = 0 := fun k => pays_no (by show (1 : Int) ≠ 11; decide) k
 generalize doB (topS 0) (dLoad c has) = r1 at *
 generalize r1.1 = b1 at *
 have hlc : b1.cards.length = 2 := l1
 have hld : b1.due.length = 2 := l2
 have ha := add_first (s := asked) (t := 0) (by omega) (by decide)
 have e2 := ask_done (n := c) (shop := s) (sum := asked) I1 dn1 (by omega) (by rw [hlc]; show c < (2 : Int); omega) (by omega) (by rw [hld]; show s < (2 : Int); omega) (by omega) (by rw [a1]; decide) (by rw [cd1]; dsimp only; omega) (by rw [cd1, t1, ha])
 have I2 := do_inv (d := dAsk c s asked) I1
 have B2 := do_bound (d := dAsk c s asked) I1 B1
 have A2 := do_accts (d := dAsk c s asked) I1
 have c2 := do_cbal (d := dAsk c s asked) I1 c.toNat (by omega)
 have d2 := fun k => do_bal (d := dAsk c s asked) I1 k
 rw [loads_no (by show (2 : Int) ≠ 1; decide), c1] at c2
 have A2o := A2.out
 rw [out_no (by show (2 : Int) ≠ 1; decide) (by show (2 : Int) ≠ 11; decide), A1o] at A2o
 refine ⟨⟨I2, B2, ?_, by rw [e2]; exact t1, ?_, by rw [A2.cards, hlc], by rw [A2.due, hld], by omega, fun k hk hn => ?_, fun k => ?_, by omega, fun i => ?_, fun i => ?_, fun i => ?_, ?_, rfl, rfl, hc, hs⟩, e12, ?_⟩
 ·rw [e2]; exact dn1
 ·rw [e2]; dsimp only; rw [a1, t1]; rfl
 ·rw [do_cbal (d := dAsk c s asked) I1 k (by omega), loads_no (by show (2 : Int) ≠ 1; decide), x1 k hk hn]; rfl
 ·rw [d2, pays_no (by show (2 : Int) ≠ 11; decide), d1, hp0, hb0]; rfl
 ·rw [e2]; dsimp only; rw [w1]; rfl
 ·rw [e2]; dsimp only; rw [s1]; show (0 : Nat) ≤ 0; decide
 ·rw [e2]; dsimp only; rw [s1]; show (0 : Int) ≤ 2; decide
 ·rw [e2]; dsimp only; rw [td1]; show (0 : Nat) ≤ 2; decide
 ·rw [e2, a1]; rfl
theorem put_sizes {s : Po.Se} {t : Po.Tr} (h : (Po.putS s t).2 = 0) : (Po.putS s t).1.kept.length = s.kept.length + 1 ∧ (Po.putS s t).1.sent = s.sent + 1 := by
 rw [(put_zero h).1]; simp [Po.outS]
theorem send_sizes {sd : Bool → Po.Se} {k a n : Int} (h : (sendBy sd k a n).2 = 0) (i : Bool) : ((sendBy sd k a n).1 i).kept.length ≤ (sd i).kept.length + sends k ∧ ((sendBy sd k a n).1 i).sent ≤ (sd i).sent + 1 := by
 have key : ∀ (j : Bool) (t : Po.Tr), (Po.putS (sd j) t).2 = 0 → (upd sd j (Po.putS (sd j) t).1 i).kept.length ≤ (sd i).kept.length + 1 ∧ (upd sd j (Po.putS (sd j) t).1 i).sent ≤ (sd i).sent + 1 := by
  intro j t h
  have := put_sizes h
  unfold upd
  split
  ·rename_i e; subst e; omega
  ·omega
 unfold sendBy at h ⊢
 by_cases q1 : k = 2 ∨ k = 3
 ·rw [if_pos q1] at h ⊢; unfold sends; rw [if_pos (by omega)]; exact key _ _ h
 rw [if_neg q1] at h ⊢
 by_cases q2 : k = 5
 ·rw [if_pos q2] at h ⊢; unfold sends; rw [if_pos (by omega)]; exact key _ _ h
 rw [if_neg q2] at h ⊢
 by_cases q3 : k = 7
 ·rw [if_pos q3] at h ⊢; unfold sends; rw [if_pos (by omega)]; exact key _ _ h
 rw [if_neg q3]
 dsimp only
 omega
theorem Got.step {b : Bank} {K M : Nat} {T c s has : Int} {a : Au.Au} (G : Got b K M T c s has a) (hM : M ≤ 20) (hK : K ≤ 90) {mv n : Int} (he : Au.mvErr a mv n = 0) (h1 : mv ≠ 1) : doB b (dMove mv 0 n) = (moveAll b (dMove mv 0 n), 0, 0) ∧ Got (doB b (dMove mv 0 n)).1 (K + 1) (M + sends mv) T c s has (Au.step a mv n) := by
 have hau : b.auth 0 = a := by unfold Bank.auth; rw [G.auths]; rfl
 have hc01 := G.c01
 have hs01 := G.s01
 have e := move_done (mv := mv) (n := 0) (sum := n) G.inv G.bound (by omega) G.down (by decide) (by rw [G.auths]; simp) (by rw [hau]; exact he) (fun h => h1 h.1) (fun i => by have := G.kept i; omega) (fun i => by have := G.sent i; omega) (by have := G.today; omega)
 refine ⟨e, ?_⟩
 have I2 := do_inv (d := dMove mv 0 n) G.inv
 have B2 := do_bound (d := dMove mv 0 n) G.inv G.bound
 have A2 := do_accts (d := dMove mv 0 n) G.inv
 have c2 := do_cbal (d := dMove mv 0 n) G.inv c.toNat (by rw [G.cards]; omega)
 have d2 := fun k => do_bal (d := dMove mv 0 n) G.inv k
 rw [loads_no (by show (3 : Int) ≠ 1; decide)] at c2
 have A2o := A2.out
 rw [out_no (by show (3 : Int) ≠ 1; decide) (by show (3 : Int) ≠ 11; decide)] at A2o
 have may := Au.mvErr_zero.1 he
 have n1 : 1 ≤ n := may.2.2.2.2.1
 have n2 : n ≤ 1000000 := may.2.2.2.2.2.1
 have hsend : (sendBy b.snd mv 0 n).2 = 0 := by
  have hp : ∀ (i : Bool) (k : Int), 1 ≤ k → k ≤ 3 → (Po.putS (b.snd i) ⟨0, k, 0, n⟩).2 = 0 := fun i k a1 a2 => put_ok (G.inv.sent.right i) (by have := G.kept i; omega) (by have := G.sent i; omega) ⟨a1, a2⟩ ⟨by show (0 : Int) ≤ 0; decide, by show (0 : Int) < 30; decide⟩ ⟨n1, n2⟩
  unfold sendBy
  repeat' split
  ·exact hp _ _ (by decide) (by decide)
  ·exact hp _ _ (by decide) (by decide)
  ·exact hp _ _ (by decide) (by decide)
  ·rfl
 obtain ⟨-, -, t3, t4, -⟩ := step_right may
 have cb := G.cb
 have out := G.out
 refine ⟨I2, B2, ?_, by rw [e]; exact G.time, ?_, by rw [A2.cards, G.cards], by rw [A2.due, G.due], by omega, fun k hk hn => ?_, fun k => ?_, by omega, fun i => ?_, fun i => ?_, fun i => ?_, ?_, by rw [t3, G.card], by rw [t4, G.shop], hc01, hs01⟩
 ·rw [e]; exact G.down
 ·rw [e]
  show b.auths.set 0 (Au.step (b.auth 0) mv n) = _
  rw [hau, G.auths]; rfl
 ·rw [do_cbal (d := dMove mv 0 n) G.inv k (by rw [G.cards]; exact hk), loads_no (by show (3 : Int) ≠ 1; decide), G.ob k hk hn]; rfl
 ·rw [d2, pays_no (by show (3 : Int) ≠ 11; decide), G.db]; rfl
 ·rw [e]; exact G.way i
 ·rw [e]
  show ((sendBy b.snd mv 0 n).1 i).kept.length ≤ M + sends mv
  have := (send_sizes hsend i).1
  have := G.kept i
  omega
 ·rw [e]
  show ((sendBy b.snd mv 0 n).1 i).sent ≤ ((K + 1 : Nat) : Int)
  have := (send_sizes hsend i).2
  have := G.sent i
  omega
 ·rw [e]
  show (b.today ++ [_]).length ≤ K + 1
  have := G.today
  rw [List.length_append, List.length_singleton]; omega
theorem Got.now {b : Bank} {K : Nat} {T c s has : Int} {a : Au.Au} (G : Got b K 0 T c s has a) :
  (b.cards.getD c.toNat zeroC).m = has - (a.cap - a.ref - a.dis) ∧ (b.cards.getD c.toNat zeroC).h = Au.holdA a ∧ b.due.getD s.toNat 0 = a.cap - a.ref ∧ Bk.getE b.book 1 = 0 ∧ Bk.getE b.book 2 = -a.dis := by
 have hc01 := G.c01
 have hs01 := G.s01
 have hk : ∀ i, (b.snd i).kept = [] := fun i => List.eq_nil_of_length_eq_zero (by have := G.kept i; omega)
 have hh := G.inv.held.held c.toNat (by rw [G.cards]; omega)
 have hm := G.cb
 have hd := due_end s.toNat (hk false)
 have h1 := G.inv.books.acc1
 have h2 := G.inv.books.acc2
 unfold onWay at h1
 unfold onBack disputed at h2
 unfold cbal at hm
 rw [hk, hk] at h1 h2
 rw [hk true] at hm
 rw [G.auths] at hh hm hd h2
 rw [G.db] at hd
 have hcn : ((c.toNat : Nat) : Int) = c := by omega
 have hsn : ((s.toNat : Nat) : Int) = s := by omega
 have s1 : sumOn (spentBy c.toNat) [a] = a.cap - a.ref - a.dis := by rw [sumOn_one]; unfold spentBy; rw [hcn, if_pos G.card]
 have s2 : sumOn (captBy s.toNat) [a] = a.cap - a.ref := by rw [sumOn_one]; unfold captBy; rw [hsn, if_pos G.shop]
 have s3 : heldOf c.toNat [a] = Au.holdA a := by unfold heldOf; rw [sumOn_one]; unfold heldBy; rw [hcn, if_pos G.card]
 rw [s1] at hm
 rw [s2] at hd
 rw [s3] at hh
 simp only [sumOn] at hm h1 h2
 exact ⟨by omega, hh, by omega, by omega, by omega⟩
theorem Got.come {b : Bank} {K M : Nat} {T c s has : Int} {a : Au.Au} (G : Got b K M T c s has a) (hk : M ≤ 4) (hK : K ≤ 100) : Got (run b (comeL 5)) (K + 24) 0 T c s has a := by
 have hc01 := G.c01
 have C := come_ok (n := 5) G.inv G.bound (by omega) G.way (fun i => by have := G.kept i; omega)
 have I := run_inv G.inv (comeL 5)
 have B := run_bound G.inv G.bound (comeL 5)
 have hl : (comeL 5).length = 24 := by decide
 rw [hl] at B
 refine ⟨I, B, by rw [C.still.plain.down]; exact G.down, by rw [C.still.plain.time]; exact G.time, by rw [C.still.plain.auths]; exact G.auths, by rw [C.still.cards]; exact G.cards, by rw [C.still.due]; exact G.due, ?_, fun k hk hn => ?_, fun k => ?_, ?_, C.way, fun i => by rw [C.kept]; simp, fun i => ?_, ?_, G.card, G.shop, G.c01, G.s01⟩
 ·rw [C.still.cb _ (by rw [G.cards]; omega)]; exact G.cb
 ·rw [C.still.cb _ (by rw [G.cards]; omega)]; exact G.ob k hk hn
 ·rw [C.still.db]; exact G.db k
 ·rw [C.still.out]; exact G.out
 ·rw [C.sent]; have := G.sent i; omega
 ·rw [C.still.plain.today]; have := G.today; omega
theorem mv_ok {a : Au.Au} {k n : Int} (h : Au.wrongA a = 0) (k1 : 1 ≤ k) (k2 : k ≤ 8) (n1 : 1 ≤ n) (n2 : n ≤ 1000000) (hs : ¬ (a.shut = true ∧ k ≤ 4)) (hr : n ≤ Au.room a k) : Au.mvErr a k n = 0 := by
 unfold Au.mvErr
 rw [if_neg (by simpa using h), if_neg (by omega), if_neg (by omega), if_neg hs, if_pos hr]
def buyL (has asked paid : Int) : List Dd := [dLoad 1 has, dAsk 1 1 asked] ++ ([dMove 3 0 paid] ++ (comeL 5 ++ [dPay 1]))
theorem buy_plain {has asked paid : Int} (h1 : 1 ≤ paid) (h2 : paid ≤ asked) (h3 : asked ≤ has) (h4 : has ≤ 100000) :
  ((run (topS 0) (buyL has asked paid)).cards.getD 1 zeroC).m = has - paid ∧ ((run (topS 0) (buyL has asked paid)).cards.getD 1 zeroC).h = 0 ∧ (run (topS 0) (buyL has asked paid)).due.getD 1 0 = 0 ∧ Bk.getE (run (topS 0) (buyL has asked paid)).book 0 = paid - has ∧ Bk.getE (run (topS 0) (buyL has asked paid)).book 1 = 0 := by
 obtain ⟨G2, -, -⟩ := got_ask (c := 1) (s := 1) (has := has) (asked := asked) (Or.inr rfl) (Or.inr rfl) (by omega) h3 h4
 unfold buyL
 rw [run_append, run_append, run_append]
 generalize run (topS 0) [dLoad 1 has, dAsk 1 1 asked] = b2 at *
 have G3 := (G2.step (mv := 3) (n := paid) (by decide) (by decide) (mv_ok G2.right (by decide) (by decide) h1 (by omega) (by simp) (by simp [Au.room]; omega)) (by decide)).2
 rw [show run b2 [dMove 3 0 paid] = (doB b2 (dMove 3 0 paid)).1 from rfl]
 generalize (doB b2 (dMove 3 0 paid)).1 = b3 at *
 have G4 := G3.come (by decide) (by decide)
 generalize run b3 (comeL 5) = b4 at *
 obtain ⟨m, hh, du, t1, -⟩ := G4.now
 have ea : Au.step ⟨1, 1, asked, 0, 0, 0, 100, false⟩ 3 paid = ⟨1, 1, asked, 0 + paid, 0, 0, 100, true⟩ := rfl
 rw [ea] at m hh du
 dsimp only at m du
 have hdo : b4.dueOf 1 = paid := by unfold Bank.dueOf; rw [show (1 : Int).toNat = 1 from rfl, show (1 : Nat) = (1 : Int).toNat from rfl, du]; omega
 have out := G4.out
 have e5 := pay_done (n := 1) G4.inv G4.bound (by decide) (by decide) (by rw [G4.due]; decide) (by omega) (by omega)
 have A5 := do_accts (d := dPay 1) G4.inv
 have I5 := do_inv (d := dPay 1) G4.inv
 have A5o := A5.out
 have ho : outD b4 (dPay 1) = paid := by
  unfold outD
  rw [e5, if_pos rfl, if_neg (show ¬ (dPay 1).kind = 1 by show ¬ ((11 : Int) = 1); decide), if_pos (show (dPay 1).kind = 11 from rfl)]
  exact hdo
 have t5 := I5.books.acc1
 have hk4 : ∀ i, (b4.snd i).kept = [] := fun i => List.eq_nil_of_length_eq_zero (by have := G4.kept i; omega)
 rw [show run b4 [dPay 1] = (doB b4 (dPay 1)).1 from rfl]
 refine ⟨?_, ?_, ?_, by rw [A5o, ho, out]; omega, ?_⟩
 ·rw [e5]; show (b4.cards.getD 1 zeroC).m = _; rw [show (1 : Nat) = (1 : Int).toNat from rfl, m]; omega
 ·rw [e5]; show (b4.cards.getD 1 zeroC).h = _; rw [show (1 : Nat) = (1 : Int).toNat from rfl, hh]; rfl
 ·rw [e5]
  show (b4.due.set (1 : Int).toNat 0).getD 1 0 = 0
  rw [getD_set _ _ _ _ _ (by rw [G4.due]; decide), if_pos (show (1 : Int).toNat = 1 from rfl)]
 ·rw [t5, e5]
  unfold onWay
  show sumOn _ (b4.snd false).kept + sumOn _ (b4.snd true).kept = 0
  rw [hk4, hk4]; rfl
def paidL (has paid : Int) : List Dd := [dLoad 0 has, dAsk 0 0 paid] ++ ([dMove 2 0 paid] ++ comeL 5)
theorem got_paid {has paid : Int} (h1 : 1 ≤ paid) (h2 : paid ≤ has) (h3 : has ≤ 100000) : Got (run (topS 0) (paidL has paid)) 27 0 0 0 0 has ⟨0, 0, paid, paid, 0, 0, 100, true⟩ := by
 obtain ⟨G2, -, -⟩ := got_ask (c := 0) (s := 0) (has := has) (asked := paid) (Or.inl rfl) (Or.inl rfl) (by omega) h2 h3
 unfold paidL
 rw [run_append, run_append]
 generalize run (topS 0) [dLoad 0 has, dAsk 0 0 paid] = b2 at *
 have G3 := (G2.step (mv := 2) (n := paid) (by decide) (by decide) (mv_ok G2.right (by decide) (by decide) h1 (by omega) (by simp) (by simp [Au.room])) (by decide)).2
 rw [show run b2 [dMove 2 0 paid] = (doB b2 (dMove 2 0 paid)).1 from rfl]
 generalize (doB b2 (dMove 2 0 paid)).1 = b3 at *
 have G4 := G3.come (by decide) (by decide)
 have ea : Au.step ⟨0, 0, paid, 0, 0, 0, 100, false⟩ 2 paid = ⟨0, 0, paid, paid, 0, 0, 100, true⟩ := by simp [Au.step]
 rw [ea] at G4
 exact G4
theorem dispute_plain {has paid n : Int} (h1 : 1 ≤ n) (h2 : n ≤ paid) (h3 : paid ≤ has) (h4 : has ≤ 100000) :
  ((run (topS 0) (paidL has paid ++ [dMove 6 0 n])).cards.getD 0 zeroC).m = has - paid + n ∧ Bk.getE (run (topS 0) (paidL has paid ++ [dMove 6 0 n])).book 2 = -n ∧
  (∀ x, x = run (topS 0) (paidL has paid ++ [dMove 6 0 n] ++ [dMove 7 0 n] ++ comeL 5) → (x.cards.getD 0 zeroC).m = has - paid + n ∧ x.due.getD 0 0 = paid - n ∧ Bk.getE x.book 2 = 0) ∧
  (∀ x, x = run (topS 0) (paidL has paid ++ [dMove 6 0 n] ++ [dMove 8 0 n] ++ comeL 5) → (x.cards.getD 0 zeroC).m = has - paid ∧ x.due.getD 0 0 = paid ∧ Bk.getE x.book 2 = 0) := by
 have G4 := got_paid (has := has) (paid := paid) (by omega) h3 h4
 rw [run_append (topS 0) _ (comeL 5), run_append (topS 0) _ (comeL 5), run_append (topS 0) _ [dMove 7 0 n], run_append (topS 0) _ [dMove 8 0 n], run_append (topS 0) _ [dMove 6 0 n]]
 generalize run (topS 0) (paidL has paid) = b4 at *
 have G5 := (G4.step (mv := 6) (n := n) (by decide) (by decide) (mv_ok G4.right (by decide) (by decide) h1 (by omega) (by simp) (by simp [Au.room]; omega)) (by decide)).2
 rw [show run b4 [dMove 6 0 n] = (doB b4 (dMove 6 0 n)).1 from rfl]
 generalize (doB b4 (dMove 6 0 n)).1 = b5 at *
 have e5 : Au.step ⟨0, 0, paid, paid, 0, 0, 100, true⟩ 6 n = ⟨0, 0, paid, paid, 0, 0 + n, 100, true⟩ := rfl
 rw [e5, show 0 + sends 6 = 0 from rfl] at G5
 obtain ⟨m5, -, -, -, t5⟩ := G5.now
 dsimp only at m5 t5
 refine ⟨?_, by omega, ?_, ?_⟩
 ·have : (b5.cards.getD (0 : Int).toNat zeroC).m = has - paid + n := by omega
  exact this
 ·intro x hx
  have G6 := (G5.step (mv := 7) (n := n) (by decide) (by decide) (mv_ok G5.right (by decide) (by decide) h1 (by omega) (by simp) (by simp [Au.room])) (by decide)).2
  rw [show run b5 [dMove 7 0 n] = (doB b5 (dMove 7 0 n)).1 from rfl] at hx
  generalize (doB b5 (dMove 7 0 n)).1 = b6 at *
  have G7 := G6.come (by decide) (by decide)
  rw [← hx] at G7
  have e6 : Au.step ⟨0, 0, paid, paid, 0, 0 + n, 100, true⟩ 7 n = ⟨0, 0, paid, paid, 0 + n, 0 + n - n, 100, true⟩ := rfl
  rw [e6] at G7
  obtain ⟨m, -, du, -, t2⟩ := G7.now
  dsimp only at m du t2
  have q1 : (x.cards.getD (0 : Int).toNat zeroC).m = has - paid + n := by omega
  have q2 : x.due.getD (0 : Int).toNat 0 = paid - n := by omega
  exact ⟨q1, q2, by omega⟩
 ·intro x hx
  have G6 := (G5.step (mv := 8) (n := n) (by decide) (by decide) (mv_ok G5.right (by decide) (by decide) h1 (by omega) (by simp) (by simp [Au.room])) (by decide)).2
  rw [show run b5 [dMove 8 0 n] = (doB b5 (dMove 8 0 n)).1 from rfl] at hx
  generalize (doB b5 (dMove 8 0 n)).1 = b6 at *
  have G7 := G6.come (by decide) (by decide)
  rw [← hx] at G7
  have e6 : Au.step ⟨0, 0, paid, paid, 0, 0 + n, 100, true⟩ 8 n = ⟨0, 0, paid, paid, 0, 0 + n - n, 100, true⟩ := rfl
  rw [e6] at G7
  obtain ⟨m, -, du, -, t2⟩ := G7.now
  dsimp only at m du t2
  have q1 : (x.cards.getD (0 : Int).toNat zeroC).m = has - paid := by omega
  have q2 : x.due.getD (0 : Int).toNat 0 = paid := by omega
  exact ⟨q1, q2, by omega⟩
def ansL (b : Bank) : List Dd → List An
 | [] => []
 | d :: r => (doB b d).2 :: ansL (doB b d).1 r
theorem fold_ans (ds : List Dd) : ∀ s : Bank × List (Dd × An), (∀ d ∈ ds, d.id = 0) → (ds.foldl play1 s).2.map (·.2) = s.2.map (·.2) ++ ansL s.1 ds := by
 induction ds with
 | nil => intro s _; simp [ansL]
 | cons d r ih =>
  intro s h
  have h0 : d.id = 0 := h d List.mem_cons_self
  have e : play1 s d = ((doB s.1 d).1, s.2 ++ [(d, ((doB s.1 d).2.1, (doB s.1 d).2.2))]) := by
   unfold play1
   rw [if_pos h0]
  rw [List.foldl_cons, ih _ (fun x hx => h x (List.mem_cons_of_mem _ hx)), e]
  simp [ansL]
theorem play_ans (b : Bank) (ds : List Dd) (h : ∀ d ∈ ds, d.id = 0) : (playL b ds).2.map (·.2) = ansL b ds := by
 have := fold_ans ds (b, []) h
 simpa [playL] using this
open Go.RowKit Go.Proofs.YtofcnebekmjdoaaGreatDoor.Gn Go.Maps
theorem playR_top {cap : Int} (hc : 0 ≤ cap ∧ cap ≤ 1000000) {l : List Dd} (h0 : ∀ d ∈ l, d.id = 0) (hl : l.length ≤ 150) : playR psT 2 cap l = (run (topS cap) l, ansL (topS cap) l, (0, 0)) := by
 have hE : setErr psT 2 cap = (0, 0) := by
  unfold setErr
  rw [if_neg (by decide), if_neg (by omega)]
  kernel_rfl
 unfold playR
 rw [hE, if_neg (by simp), if_neg (by omega), ← play_run0 _ _ h0, ← play_ans _ _ h0]
 rfl
theorem run_lens {b : Bank} (I : Inv b) (l : List Dd) : (run b l).cards.length = b.cards.length ∧ (run b l).due.length = b.due.length := by
 induction l generalizing b with
 | nil => exact ⟨rfl, rfl⟩
 | cons d r ih =>
  rw [run_cons]
  have A := do_accts (d := d) I
  have I' : Inv (doB b d).1 := run_inv I [d]
  exact ⟨(ih I').1.trans A.cards, (ih I').2.trans A.due⟩
theorem card_at {W : World} {b : Bank} {v : Vs} {cs : List CV} {ds : List DV} (SH : Shows W b v cs ds) {n k : Nat} (hn : b.cards.length = n) (hk : k < n) :
  ∃ (z o c : Nat) (x : CV), x.c = b.cards.getD k zeroC ∧ v.c = .slice (some ⟨z, o, none⟩) n c ∧ (∀ j u, (kC.cells x)[j]? = some u → W.cell? ⟨z, o + k * 6 + j, none⟩ = some u) := by
 have hcs := SH.csv
 have hlen : cs.length = n := by rw [← hn, ← hcs, List.length_map]
 obtain ⟨a, c, h1, l1⟩ := SH.cards.lies
 obtain ⟨z, o, rfl, -, hf⟩ := l1.elem (i := k) (x := cs.getD k zCV) (by simp [List.getD, show k < cs.length by omega])
 refine ⟨z, o, c, cs.getD k zCV, ?_, by rw [h1, hlen], hf⟩
 rw [← hcs]
 simp [List.getD, show k < cs.length by omega]
theorem due_at {W : World} {b : Bank} {v : Vs} {cs : List CV} {ds : List DV} (SH : Shows W b v cs ds) {n k : Nat} (hn : b.due.length = n) (hk : k < n) :
  ∃ (z o c : Nat), v.d = .slice (some ⟨z, o, none⟩) n c ∧ W.cell? ⟨z, o + k, none⟩ = some (.int .i64 (b.due.getD k 0)) := by
 obtain ⟨a, c, h1, l1⟩ := SH.due.lies
 obtain ⟨z, o, rfl, -, hf⟩ := l1.elem (i := k) (x := b.due.getD k 0) (by simp [List.getD, show k < b.due.length by omega])
 have := hf 0 _ rfl
 dsimp only [kI] at this
 exact ⟨z, o, c, by rw [h1, hn], by simpa using this⟩
theorem small_three {x y z : Int} (h : smallB [x, y, z] = true) : 1 ≤ x ∧ x ≤ 100000 ∧ 1 ≤ y ∧ y ≤ 100000 ∧ 1 ≤ z ∧ z ≤ 100000 := by
 unfold smallB at h
 simp at h
 omega
open Go.RowKit Go.Proofs.YtofcnebekmjdoaaGreatDoor.Gn Go.Maps
theorem fo_again {w : World} {g : Nat} (h : w.heap[g]? = some (fo (0, 0))) (i : Nat) (hi : i = 0 ∨ i = 1) : ∀ k : Nat, (w.setCell ⟨g, i, none⟩ (.int .i64 0)).heap[k]? = w.heap[k]? := by
 intro k
 by_cases e : k = g
 ·subst e
  unfold fo at h
  rw [heap_setCell_same _ _ _ _ _ _ h, h]
  rcases hi with rfl | rfl <;> rfl
 ·exact heap_setCell_other _ _ _ _ (by simpa using e)
theorem got_again (w : World) (zs : Array Value) (hz : zs.size = 19) (b : Bank) (v : Vs) (g : Nat) (hg : w.heap[g]? = some (fo (0, 0))) :
  (w.alloc (.cells zs 43)).there w.heap.size 0 (cellsK b v).size ∧
  ((w.alloc (.cells zs 43)).setCells w.heap.size 0 (cellsK b v).toList).heap[g]? = some (fo (0, 0)) ∧
  ((((w.alloc (.cells zs 43)).setCells w.heap.size 0 (cellsK b v).toList).setCell ⟨g, 0, none⟩ (.int .i64 0)).setCell ⟨g, 1, none⟩ (.int .i64 0)).heap[w.heap.size]? = some (bko b v) ∧
  ((((w.alloc (.cells zs 43)).setCells w.heap.size 0 (cellsK b v).toList).setCell ⟨g, 0, none⟩ (.int .i64 0)).setCell ⟨g, 1, none⟩ (.int .i64 0)).heap[g]? = some (fo (0, 0)) ∧
  Below w.heap.size w ((((w.alloc (.cells zs 43)).setCells w.heap.size 0 (cellsK b v).toList).setCell ⟨g, 0, none⟩ (.int .i64 0)).setCell ⟨g, 1, none⟩ (.int .i64 0)) := by
 have e1 := below_alloc w (.cells zs 43)
 have h0 : (w.alloc (.cells zs 43)).heap[w.heap.size]? = some (.cells zs 43) := heap_alloc_at _ _ _ rfl
 have hlt := lt_of_block hg
 refine ⟨there_blk h0 (by rw [hz]; exact Nat.le_refl 19), ?_⟩
 rw [putAll_cells]
 have g0 : (putAll (w.alloc (.cells zs 43)) w.heap.size 0 (cellsK b v).toList).heap[w.heap.size]? = some (bko b v) := by
  have := putAll_same (cellsK b v).toList (w.alloc (.cells zs 43)) w.heap.size [] zs.toList [] 43 (by simp [hz]; rfl) (by rw [h0]; simp)
  refine Eq.trans this ?_
  unfold bko
  simp
 have g1 := (putAll_other (w.alloc (.cells zs 43)) w.heap.size 0 g (cellsK b v).toList (by omega)).trans ((e1.block _ hlt).trans hg)
 have hbY := below_putAll e1 w.heap.size 0 (cellsK b v).toList (Nat.le_refl _)
 generalize putAll (w.alloc (.cells zs 43)) w.heap.size 0 (cellsK b v).toList = Y at *
 have s1 := fo_again g1 0 (Or.inl rfl)
 have g2 := (s1 g).trans g1
 have s2 := fo_again g2 1 (Or.inr rfl)
 refine ⟨g1, (s2 _).trans ((s1 _).trans g0), (s2 _).trans g2, ?_⟩
 exact ⟨hbY.os, hbY.tape, hbY.output, by simpa using hbY.size, fun k hk => (s2 k).trans ((s1 k).trans (hbY.block k hk))⟩
end Go.Proofs.YtofcnebekmjdoaaGreatDoor.Bn
