import Derived.Test.YtofcnebekmjdoaaGreatDoorLDispac
set_option maxHeartbeats 4000000
set_option maxRecDepth 100000
namespace Go.Proofs.YtofcnebekmjdoaaGreatDoor.Bn
open Go.Proofs.YtofcnebekmjdoaaGreatDoor
def Moving (d : Dd) : Prop := d.kind = 5 ∨ d.kind = 6 ∨ d.kind = 7
structure Still (b x : Bank) : Prop where
 plain : Plain b x
 cards : x.cards.length = b.cards.length
 due : x.due.length = b.due.length
 cb : ∀ k, k < b.cards.length → cbal k x = cbal k b
 db : ∀ k, bal k x = bal k b
 out : Bk.getE x.book 0 = Bk.getE b.book 0
theorem plain_refl (b : Bank) : Plain b b := ⟨rfl, rfl, rfl, rfl, rfl, rfl⟩
theorem plain_ite {b : Bank} {c : Prop} [Decidable c] {x y : Bank × Int} (h1 : Plain b x.1) (h2 : Plain b y.1) : Plain b (if c then x else y).1 := by
 split
 ·exact h1
 ·exact h2
theorem arrive_plain (b : Bank) (d : Dd) (lost : Bool) : Plain b (arriveB b d lost).1 := by
 unfold arriveB
 refine plain_ite (plain_refl b) ?_
 split
 ·exact plain_refl b
 ·refine plain_ite ⟨rfl, rfl, rfl, rfl, rfl, rfl⟩ ?_
  unfold arriveAt
  refine plain_ite (plain_ite (plain_refl b) ⟨rfl, rfl, rfl, rfl, rfl, rfl⟩) (plain_ite ⟨rfl, rfl, rfl, rfl, rfl, rfl⟩ ?_)
  unfold comes
  exact plain_ite (plain_ite (plain_refl b) ⟨rfl, rfl, rfl, rfl, rfl, rfl⟩) (plain_ite (plain_ite (plain_refl b) (plain_ite (plain_refl b) ⟨rfl, rfl, rfl, rfl, rfl, rfl⟩)) (plain_ite (plain_ite (plain_refl b) ⟨rfl, rfl, rfl, rfl, rfl, rfl⟩) ⟨rfl, rfl, rfl, rfl, rfl, rfl⟩))
theorem send_plain (b : Bank) (d : Dd) : Plain b (sendB b d).1 := by
 unfold sendB
 exact plain_ite (plain_refl b) (plain_ite (plain_refl b) ⟨rfl, rfl, rfl, rfl, rfl, rfl⟩)
theorem do_still {b : Bank} {d : Dd} (I : Inv b) (hd : Moving d) : Still b (doB b d).1 := by
 have hp : Plain b (doB b d).1 := by
  unfold doB
  rcases hd with h | h | h
  ·rw [if_neg (by omega), if_neg (by omega), if_neg (by omega), if_neg (by omega), if_pos h]; exact send_plain b d
  ·rw [if_neg (by omega), if_neg (by omega), if_neg (by omega), if_neg (by omega), if_neg (by omega), if_pos h]; exact arrive_plain b d false
  ·rw [if_neg (by omega), if_neg (by omega), if_neg (by omega), if_neg (by omega), if_neg (by omega), if_neg (by omega), if_pos h]; exact arrive_plain b d true
 have A := do_accts (d := d) I
 have h1 : d.kind ≠ 1 := by unfold Moving at hd; omega
 have h11 : d.kind ≠ 11 := by unfold Moving at hd; omega
 refine ⟨hp, A.cards, A.due, fun k hk => ?_, fun k => ?_, ?_⟩
 ·rw [do_cbal I k hk]; unfold loads; rw [if_neg (fun h => h1 h.1)]; omega
 ·rw [do_bal I k]; unfold paysOut; rw [if_neg (fun h => h11 h.1)]; omega
 ·have ho : outD b d = 0 := by
   unfold outD
   simp only [if_neg h1, if_neg h11, ite_self]
  rw [A.out, ho]; omega
theorem Still.trans {a b c : Bank} (h : Still a b) (h2 : Still b c) : Still a c :=
 ⟨⟨h2.plain.auths.trans h.plain.auths, h2.plain.time.trans h.plain.time, h2.plain.down.trans h.plain.down, h2.plain.stand.trans h.plain.stand, h2.plain.today.trans h.plain.today, h2.plain.days.trans h.plain.days⟩, h2.cards.trans h.cards, h2.due.trans h.due,
  fun k hk => (h2.cb k (by rw [h.cards]; exact hk)).trans (h.cb k hk), fun k => (h2.db k).trans (h.db k), h2.out.trans h.out⟩
theorem still_refl (b : Bank) : Still b b := ⟨plain_refl b, rfl, rfl, fun _ _ => rfl, fun _ => rfl, rfl⟩
theorem run_still (ds : List Dd) : ∀ b : Bank, Inv b → (∀ d ∈ ds, Moving d) → Still b (run b ds) := by
 induction ds with
 | nil => exact fun b _ _ => still_refl b
 | cons d r ih =>
  intro b I h
  rw [run_cons]
  exact (do_still I (h d List.mem_cons_self)).trans (ih _ (do_inv I) fun x hx => h x (List.mem_cons_of_mem _ hx))
theorem round_moving (n : Nat) : ∀ d ∈ roundL n, Moving d := by
 intro d hd
 unfold roundL at hd
 simp only [List.mem_append, List.mem_cons, List.mem_replicate] at hd
 rcases hd with ((h | h | h) | ⟨-, h⟩) | ⟨-, h⟩
 ·subst h; exact Or.inl rfl
 ·subst h; exact Or.inl rfl
 ·cases h
 ·subst h; exact Or.inr (Or.inl rfl)
 ·subst h; exact Or.inr (Or.inl rfl)
def comeL (n : Nat) : List Dd := roundL n ++ roundL n
structure Came (b x : Bank) : Prop where
 still : Still b x
 kept : ∀ i, (x.snd i).kept = []
 way : ∀ i, x.way i = []
 sent : ∀ i, (x.snd i).sent = (b.snd i).sent
theorem come_ok {K n : Nat} {b : Bank} (I : Inv b) (B : Bound K b) (hK : K + 6 * n + 30 ≤ 900000) (hw : ∀ i, b.way i = []) (hk : ∀ i, (b.snd i).kept.length + 1 ≤ n) : Came b (run b (comeL n)) := by
 unfold comeL
 have hst := run_still (roundL n ++ roundL n) b I (fun d hd => by
  rcases List.mem_append.1 hd with h | h <;> exact round_moving n d h)
 rw [run_append] at hst ⊢
 obtain ⟨g1, g2, g3⟩ := round_ok I B (n := n) (by omega) hw hk
 have I2 := run_inv I (roundL n)
 have B2 := run_bound I B (roundL n)
 have hrl : (roundL n).length = 2 * n + 2 := by simp [roundL]; omega
 rw [hrl] at B2
 generalize run b (roundL n) = b2 at *
 obtain ⟨k1, k2, k3⟩ := round_ok I2 B2 (n := n) (by omega) g3 (fun i => by
  rw [g1]
  show (Po.those (b.seen (!i)) (b.snd i).kept).length + 1 ≤ n
  have := Po.those_le (b.seen (!i)) (b.snd i).kept
  have := hk i; omega)
 generalize run b2 (roundL n) = b3 at *
 have hkept : ∀ i, (b3.snd i).kept = [] := fun i => by
  rw [k1]
  show Po.those (b2.seen (!i)) (b2.snd i).kept = []
  have h2 : b2.seen (!i) = (b2.snd i).sent := by
   rw [g2, g1, not_not_side]
  rw [h2]
  exact List.filter_eq_nil_iff.2 fun t ht => by
   have := (right_mem (I2.sent.right i) ht).2.2.2
   simpa using this
 exact ⟨hst, hkept, k3, fun i => by rw [k1, g1]⟩
def dLoad (n sum : Int) : Dd := ⟨0, 1, n, 0, 0, sum⟩
def dAsk (n shop sum : Int) : Dd := ⟨0, 2, n, shop, 0, sum⟩
def dMove (mv n sum : Int) : Dd := ⟨0, 3, n, 0, mv, sum⟩
def dPay (n : Int) : Dd := ⟨0, 11, n, 0, 0, 0⟩
theorem load_done {K : Nat} {b : Bank} {n sum : Int} (I : Inv b) (B : Bound K b) (hK : K ≤ 400) (h0 : 0 ≤ n) (h1 : n < b.cards.length) (hs : 1 ≤ sum ∧ sum ≤ 1000000) (ho : -900000000000 ≤ Bk.getE b.book 0) :
  doB b (dLoad n sum) = ({ b with cards := b.cards.set n.toNat ⟨(b.card n).m + sum, (b.card n).h, (b.card n).p, (b.card n).u⟩, book := (moveB b.book 0 (10 + n) sum).1 }, 0, 0) := by
 have hc8 := I.held.cards8
 have R := I.held.card h0 h1
 have hm := money_small I B hK n.toNat (by omega)
 have hcd : b.cards.getD n.toNat zeroC = b.card n := rfl
 rw [hcd] at hm
 have hsh := shift_in (h := 0) (m := sum) R (by unfold far; omega) (by unfold off; omega)
 have ha := B (10 + n) (by omega)
 have hmv : (moveB b.book 0 (10 + n) sum).2 = 0 := moveB_fits I.books.right (by omega) (by omega) (by omega) (by omega) (by omega) (by omega)
 unfold doB dLoad two loadB
 simp only [if_true]
 rw [if_neg (by omega), if_neg (by omega), hsh]
 simp only [ne_eq, not_true_eq_false, if_false]
 rw [if_neg (by simpa using hmv), Int.add_zero]
theorem ask_done {b : Bank} {n shop sum : Int} (I : Inv b) (hd : b.down = false) (h0 : 0 ≤ n) (h1 : n < b.cards.length) (s0 : 0 ≤ shop) (s1 : shop < b.due.length) (hs : 1 ≤ sum ∧ sum ≤ 1000000) (hfew : b.auths.length < 30) (hm : (b.card n).h + sum ≤ (b.card n).m) (ha : (addU (b.card n).p (b.card n).u (b.time, sum)).2 = 0) :
  doB b (dAsk n shop sum) = ({ b with cards := b.cards.set n.toNat ⟨(b.card n).m, (b.card n).h + sum, (b.card n).p, (addU (b.card n).p (b.card n).u (b.time, sum)).1⟩, auths := b.auths ++ [⟨n, shop, sum, 0, 0, 0, b.time + 100, false⟩] }, 0, (b.auths.length : Int)) := by
 have hc8 := I.held.cards8
 have hd8 := I.held.due8
 have t0 := I.held.time0
 have t1 := I.held.time1
 have R := I.held.card h0 h1
 have hn : Au.newA n shop sum b.time = (⟨n, shop, sum, 0, 0, 0, b.time + 100, false⟩, 0) := by
  unfold Au.newA
  rw [if_pos (by omega)]
 have hal := allowC_ok (c := b.card n) (s := sum) (t := b.time) (wrongC_ok.2 R) (by omega) (by omega) ha
 unfold doB dAsk
 simp only [if_neg (show ¬ ((2 : Int) = 1) by decide), if_true]
 unfold askB askUp
 simp only [hn, hal, hd]
 rw [if_neg (by omega), if_neg (by decide), if_neg (by decide), if_neg (by omega), if_neg (by decide)]
theorem put_ok {s : Po.Se} {t : Po.Tr} (R : Po.Right s) (h1 : s.kept.length < 40) (h2 : s.sent < 1000000) (hk : 1 ≤ t.k ∧ t.k ≤ 3) (ha : 0 ≤ t.a ∧ t.a < 30) (hs : 1 ≤ t.s ∧ t.s ≤ 1000000) : (Po.putS s t).2 = 0 := by
 have R2 : Po.Right (Po.outS s t) := by
  refine ⟨by simp [Po.outS]; omega, ?_, by simp [Po.outS]; omega, ?_⟩
  ·have := R.lo
   simp [Po.outS]; omega
  ·intro i x hx
   unfold Po.outS at hx ⊢
   dsimp only at hx ⊢
   rw [List.length_append, List.length_singleton]
   by_cases hi : i < s.kept.length
   ·rw [List.getElem?_append_left hi] at hx
    obtain ⟨e1, e2, e3⟩ := R.each i x hx
    exact ⟨e1, e2, by omega⟩
   ·rw [List.getElem?_append_right (by omega)] at hx
    have hi2 : i = s.kept.length := by
     have := (List.getElem?_eq_some_iff.1 hx).1
     simp at this; omega
    subst hi2
    simp at hx
    subst hx
    refine ⟨?_, ?_, ?_⟩
    ·show ¬ Po.noKind t.k
     unfold Po.noKind; omega
    ·show ¬ Po.far t.a t.s
     unfold Po.far; omega
    ·show s.sent + 1 = _
     omega
 rw [Po.putS_ok (Po.wrongS_ok.2 R) (Po.wrongS_ok.2 R2)]
theorem move_done {K : Nat} {b : Bank} {mv n sum : Int} (I : Inv b) (B : Bound K b) (hK : K ≤ 400) (hd : b.down = false) (h0 : 0 ≤ n) (h1 : n < b.auths.length) (he : Au.mvErr (b.auth n) mv sum = 0) (hf : ¬ (mv = 1 ∧ (b.card (b.auth n).card).m - (b.card (b.auth n).card).h < sum))
  (hk : ∀ i, (b.snd i).kept.length < 40) (hs : ∀ i, (b.snd i).sent < 1000000) (ht : b.today.length < 100) : doB b (dMove mv n sum) = (moveAll b (dMove mv n sum), 0, 0) := by
 have q1 : ¬ ((dMove mv n sum).n < 0 ∨ (b.auths.length : Int) ≤ (dMove mv n sum).n) := by show ¬ (n < 0 ∨ (b.auths.length : Int) ≤ n); omega
 have N := nums_of (d := dMove mv n sum) I B hK q1 he
 obtain ⟨g1, g2, -, -⟩ := go_in I B hK N
 have may := N.may
 have n1 : 1 ≤ sum := may.2.2.2.2.1
 have n2 : sum ≤ 1000000 := may.2.2.2.2.2.1
 have hfew := I.held.few
 have hp : ∀ (i : Bool) (k : Int), 1 ≤ k → k ≤ 3 → (Po.putS (b.snd i) ⟨0, k, n, sum⟩).2 = 0 := fun i k a1 a2 => put_ok (I.sent.right i) (hk i) (hs i) ⟨a1, a2⟩ ⟨h0, by show n < 30; omega⟩ ⟨n1, n2⟩
 have g3 : (sendBy b.snd (dMove mv n sum).mv (dMove mv n sum).n (dMove mv n sum).sum).2 = 0 := by
  unfold sendBy dMove
  dsimp only
  repeat' split
  ·exact hp _ _ (by decide) (by decide)
  ·exact hp _ _ (by decide) (by decide)
  ·exact hp _ _ (by decide) (by decide)
  ·rfl
 have e3 : doB b (dMove mv n sum) = two (moveD b (dMove mv n sum)) := by
  unfold doB
  rw [if_neg (by show ¬ ((3 : Int) = 1); decide), if_neg (by show ¬ ((3 : Int) = 2); decide), if_pos (show (dMove mv n sum).kind = 3 from rfl)]
 rw [e3]
 unfold moveD two
 have he' : ¬ (Au.mvErr (b.auth (dMove mv n sum).n) (dMove mv n sum).mv (dMove mv n sum).sum ≠ 0) := fun h => h he
 have hf' : ¬ ((dMove mv n sum).mv = 1 ∧ (b.card (b.auth (dMove mv n sum).n).card).m - (b.card (b.auth (dMove mv n sum).n).card).h < (dMove mv n sum).sum) := hf
 rw [if_neg (by rw [hd]; decide), if_neg q1, if_neg he', if_neg hf', if_neg (fun h => h g1), if_neg (fun h => h g2), if_neg (fun h => h g3), if_neg (by omega)]
theorem pay_done {K : Nat} {b : Bank} {n : Int} (I : Inv b) (B : Bound K b) (hK : K ≤ 400) (h0 : 0 ≤ n) (h1 : n < b.due.length) (hd : 1 ≤ b.dueOf n) (ho : Bk.getE b.book 0 ≤ 900000000000) :
  doB b (dPay n) = ({ b with due := b.due.set n.toNat 0, book := (moveB b.book (50 + n) 0 (b.dueOf n)).1 }, 0, 0) := by
 have hd8 := I.held.due8
 have hs := due_small I B hK n.toNat (by omega)
 have hcd : b.due.getD n.toNat 0 = b.dueOf n := rfl
 rw [hcd] at hs
 have hacc := I.books.accS n.toNat (by omega)
 rw [hcd, show (50 : Int) + ((n.toNat : Nat) : Int) = 50 + n by omega] at hacc
 have hmv : (moveB b.book (50 + n) 0 (b.dueOf n)).2 = 0 := moveB_fits I.books.right (by omega) (by omega) (by omega) (by omega) (by omega) (by omega)
 unfold doB dPay two payB
 simp only []
 rw [if_neg (by decide), if_neg (by decide), if_neg (by decide), if_neg (by decide), if_neg (by decide), if_neg (by decide), if_neg (by decide), if_neg (by decide), if_neg (by decide), if_neg (by decide)]
 simp only [if_true]
 rw [if_neg (by omega), if_neg (by omega), if_neg (by simpa using hmv)]
def paceT : Pa := ⟨1000, 30, 1000000000000⟩
def topS (cap : Int) : Bank := startB [paceT, paceT] 2 cap
theorem top_inv {cap : Int} (h : 0 ≤ cap ∧ cap ≤ 1000000) : Inv (topS cap) := start_inv (by decide) (by decide) (by unfold St.Lim; omega) (by
 intro p hp
 have : p = paceT := by simp at hp; exact hp
 subst this
 decide)
theorem start_bound (ps : List Pa) (n : Nat) (cap : Int) : Bound 0 (startB ps n cap) := fun acc _ => by
 show -(1000000 * ((0 : Nat) : Int)) ≤ Bk.getE [] acc ∧ Bk.getE [] acc ≤ _
 have : Bk.getE [] acc = 0 := rfl
 rw [this]; omega
theorem add_first {s t : Int} (hs : 1 ≤ s ∧ s ≤ 1000000) (ht : 0 ≤ t ∧ t ≤ 1000000) : addU paceT [] (t, s) = ([(t, s)], 0) := by
 unfold addU
 have h1 : wrongAdd paceT [] (t, s) = 0 := by
  unfold wrongAdd
  rw [if_neg (by decide), if_neg (by decide), if_neg (by
   have : inU (t, s) = true := inU_true.2 ⟨ht.1, ht.2, by dsimp only; omega, hs.2⟩
   rw [this]; decide), if_neg (by simp)]
 have h2 : out paceT [] (t, s) = [(t, s)] := rfl
 rw [h1, h2]
 have h3 : tot [(t, s)] = s := by simp [tot]
 rw [h3]
 simp only [ne_eq, not_true_eq_false, if_false]
 rw [if_neg (by simp [paceT]; omega)]
open Go.RowKit Go.Proofs.YtofcnebekmjdoaaGreatDoor.Gn Go.Maps
theorem infoDd : (Tryz.prog.info? 74).map (fun i => (i.zero, i.size, i.bytes)) = some (some (.agg #[.int .i64 0, .int .i64 0, .int .i64 0, .int .i64 0, .int .i64 0, .int .i64 0]), 6, 48) := by kernel_rfl
theorem elemDd : Elem Tryz.prog kDd 25 74 48 := by
 obtain ⟨i, h1, h2, h3, h4⟩ := info_parts infoDd
 exact ⟨Tryz.underlying25, i, _, h1, h2, h3, h4, rfl⟩
theorem tdo_any (k n s : Int) (w : World) : Calls Tryz.prog 39 #[.int .i64 k, .int .i64 n, .int .i64 s] w fun e w' => e = .returned (ddv ⟨0, k, n, 0, 0, s⟩) ∧ Below w.heap.size w w' := by
 have hb := below_alloc w (ddo ⟨0, k, n, 0, 0, s⟩)
 obtain ⟨d0, d1, d2, d3, d4, d5⟩ := ddo_cells (z := w.heap.size) (heap_alloc_at w (ddo ⟨0, k, n, 0, 0, s⟩) _ rfl)
 unfold ddo at hb d0 d1 d2 d3 d4 d5
 dsimp only at hb d0 d1 d2 d3 d4 d5
 go_enter Tryz.func39, Tryz.ntmps39
 go_wp2_with fail
 generalize w.alloc (.cells #[.int .i64 0, .int .i64 k, .int .i64 n, .int .i64 0, .int .i64 0, .int .i64 s] 74) = X at *
 exact bodyPost_ret (v := ddv ⟨0, k, n, 0, 0, s⟩) (by unfold ddv; simp [results, Tryz.results39, go_sem, d0, d1, d2, d3, d4, d5]; try rfl) rfl ⟨rfl, hb⟩
theorem tmove_any (k n s : Int) (w : World) : Calls Tryz.prog 40 #[.int .i64 k, .int .i64 n, .int .i64 s] w fun e w' => e = .returned (ddv ⟨0, 3, n, 0, k, s⟩) ∧ Below w.heap.size w w' := by
 have hb := below_alloc w (ddo ⟨0, 3, n, 0, k, s⟩)
 obtain ⟨d0, d1, d2, d3, d4, d5⟩ := ddo_cells (z := w.heap.size) (heap_alloc_at w (ddo ⟨0, 3, n, 0, k, s⟩) _ rfl)
 unfold ddo at hb d0 d1 d2 d3 d4 d5
 dsimp only at hb d0 d1 d2 d3 d4 d5
 go_enter Tryz.func40, Tryz.ntmps40
 go_wp2_with fail
 generalize w.alloc (.cells #[.int .i64 0, .int .i64 3, .int .i64 n, .int .i64 0, .int .i64 k, .int .i64 s] 74) = X at *
 exact bodyPost_ret (v := ddv ⟨0, 3, n, 0, k, s⟩) (by unfold ddv; simp [results, Tryz.results40, go_sem, d0, d1, d2, d3, d4, d5]; try rfl) rfl ⟨rfl, hb⟩
def smallB (l : List Int) : Bool := l.all fun n => decide (1 ≤ n) && decide (n ≤ 100000)
theorem small_any (a : Option Addr) (c : Nat) (l : List Int) (w : World) (hl : Gn.Lies kI w a c l) : Calls Tryz.prog 37 #[.slice a l.length c] w fun e w' => e = .returned (.bool (smallB l)) ∧ Below w.heap.size w w' := by
 have hmx := hl.len
 unfold maxLen at hmx
 go_enter Tryz.func37, Tryz.ntmps37
 go_upto_region 2 with fail
 go_loopw [7] (fun i wr => ∃ k : Nat, k ≤ l.length ∧ i = .int .i64 k ∧ Below w.heap.size w wr ∧ Hid (∀ j, j < k → 1 ≤ l.getD j 0 ∧ l.getD j 0 ≤ 100000)) (fun i _ => l.length - (intOf i).toNat)
 case atStart => exact ⟨0, Nat.zero_le _, rfl, Below.refl _ _, hid fun j hj => by omega⟩
 case round =>
  obtain ⟨k, hk, rfl, hbr, hq⟩ := hrel
  by_cases hlt : k < l.length
  ·have hlt' : (k : Int) < l.length := by omega
   obtain ⟨z, off, rfl, zlt, hcell⟩ := (hl.below hbr).elem (i := k) (x := l.getD k 0) (by simp [List.getD, hlt])
   have e0 := hcell 0 _ rfl
   dsimp only [kI] at e0
   simp only [Nat.add_zero, Nat.mul_one] at e0
   have hno : ¬ (1 ≤ l.getD k 0 ∧ l.getD k 0 ≤ 100000) → Hid (smallB l = false) := fun h => hid (by
    unfold smallB
    rw [List.all_eq_false]
    refine ⟨l.getD k 0, getD_mem' 0 hlt, ?_⟩
    revert h
    generalize l.getD k 0 = y
    intro h
    simp only [Bool.and_eq_true, decide_eq_true_eq]
    exact h)
   have hyes : (1 ≤ l.getD k 0 ∧ l.getD k 0 ≤ 100000) → Hid (∀ j, j < k + 1 → 1 ≤ l.getD j 0 ∧ l.getD j 0 ≤ 100000) := fun h => hid fun j hj => by
    by_cases e : j = k
    ·rw [e]; exact h
    ·exact hq.out j (by omega)
   clear hcell hq
   generalize l.getD k 0 = x at *
   by_cases h1 : x < 1
   ·have hs := hno (by omega)
    clear hno hyes
    go_wp2_with fail
    exact bodyPost_ret (results_tmp Tryz.results37 _ _ _) rfl ⟨by rw [hs.out]; rfl, hbr⟩
   ·by_cases h2 : 100000 < x
    ·have hs := hno (by omega)
     clear hno hyes
     go_wp2_with fail
     exact bodyPost_ret (results_tmp Tryz.results37 _ _ _) rfl ⟨by rw [hs.out]; rfl, hbr⟩
    ·have hs := hyes (by omega)
     clear hno hyes
     go_wp2_with fail
     go_roundw
     case rel => exact ⟨k + 1, by omega, by go_num, hbr, hs⟩
     case measure => simp [intOf]; omega
  ·obtain rfl : k = l.length := by omega
   have hge : ¬ ((l.length : Int) < l.length) := by omega
   have hs : Hid (smallB l = true) := hid (by
    unfold smallB
    rw [List.all_eq_true]
    intro x hx
    obtain ⟨j, hj, rfl⟩ := List.getElem_of_mem hx
    have := hq.out j hj
    simp [List.getD, hj] at this
    simp; omega)
   clear hq
   go_wp2_with fail
   exact bodyPost_ret (results_tmp Tryz.results37 _ _ _) rfl ⟨by rw [hs.out]; rfl, hbr⟩
open Go.RowKit Go.Proofs.YtofcnebekmjdoaaGreatDoor.Gn Go.Maps
def psT : List Pa := [paceT, paceT]
theorem tsetup_any (cap : Int) (w : World) : Calls Tryz.prog 41 #[.int .i64 cap] w fun e w' => ∃ z c, e = .returned (suv (.slice (some ⟨z, 0, none⟩) 2 c) 2 cap) ∧ Gn.Lies kPa w' (some ⟨z, 0, none⟩) c psT ∧ Below w.heap.size w w' ∧ w.heap.size ≤ z := by
 have e1 := below_alloc w (.cells #[.slice (some ⟨w.heap.size + 2, 0, none⟩) 2 2, .int .i64 2, .int .i64 cap] 24)
 have e2 := below_alloc (w.alloc (.cells #[.slice (some ⟨w.heap.size + 2, 0, none⟩) 2 2, .int .i64 2, .int .i64 cap] 24)) (.cells #[.int .i64 1000, .int .i64 30, .int .i64 1000000000000] 58)
 have e3 := below_alloc ((w.alloc (.cells #[.slice (some ⟨w.heap.size + 2, 0, none⟩) 2 2, .int .i64 2, .int .i64 cap] 24)).alloc (.cells #[.int .i64 1000, .int .i64 30, .int .i64 1000000000000] 58)) (.cells #[.int .i64 1000, .int .i64 30, .int .i64 1000000000000, .int .i64 1000, .int .i64 30, .int .i64 1000000000000] 58)
 have hp : Gn.Lies kPa (((w.alloc (.cells #[.slice (some ⟨w.heap.size + 2, 0, none⟩) 2 2, .int .i64 2, .int .i64 cap] 24)).alloc (.cells #[.int .i64 1000, .int .i64 30, .int .i64 1000000000000] 58)).alloc (.cells #[.int .i64 1000, .int .i64 30, .int .i64 1000000000000, .int .i64 1000, .int .i64 30, .int .i64 1000000000000] 58)) (some ⟨w.heap.size + 2, 0, none⟩) 2 psT := lies_blk (K := kPa) (L := psT) (heap_alloc_at _ _ _ (by simp)) (by kernel_rfl) (by simp [psT, maxLen]) _
 have hs : (((w.alloc (.cells #[.slice (some ⟨w.heap.size + 2, 0, none⟩) 2 2, .int .i64 2, .int .i64 cap] 24)).alloc (.cells #[.int .i64 1000, .int .i64 30, .int .i64 1000000000000] 58)).alloc (.cells #[.int .i64 1000, .int .i64 30, .int .i64 1000000000000, .int .i64 1000, .int .i64 30, .int .i64 1000000000000] 58)).heap[w.heap.size]? = some (suo (.slice (some ⟨w.heap.size + 2, 0, none⟩) 2 2) 2 cap) := (e3.block _ (by simp; omega)).trans ((e2.block _ (by simp)).trans (heap_alloc_at _ _ _ rfl))
 have hb := (e1.trans (e2.mono (by simp))).trans (e3.mono (by simp; omega))
 obtain ⟨s0, s1, s2⟩ := sul_cells hs
 clear e1 e2 e3 hs
 go_enter Tryz.func41, Tryz.ntmps41
 go_wp2_with fail
 generalize ((w.alloc (.cells #[.slice (some ⟨w.heap.size + 2, 0, none⟩) 2 2, .int .i64 2, .int .i64 cap] 24)).alloc (.cells #[.int .i64 1000, .int .i64 30, .int .i64 1000000000000] 58)).alloc (.cells #[.int .i64 1000, .int .i64 30, .int .i64 1000000000000, .int .i64 1000, .int .i64 30, .int .i64 1000000000000] 58) = X at *
 exact bodyPost_ret (v := suv (.slice (some ⟨w.heap.size + 2, 0, none⟩) 2 2) 2 cap) (by unfold suv; simp [results, Tryz.results41, go_sem, s0, s1, s2]; try rfl) rfl ⟨_, _, rfl, hp, hb, by omega⟩
theorem come_len : (comeL 5).length = 24 := by kernel_rfl
theorem come_at (i j k : Nat) (hi : i < 2) (hj : j < 2) (hk : k < 5) : (comeL 5).getD (12 * i + 2 + 5 * j + k) zD = ⟨0, 6, j, 0, 0, 0⟩ := by
 obtain rfl | rfl : i = 0 ∨ i = 1 := by omega
 all_goals obtain rfl | rfl : j = 0 ∨ j = 1 := by omega
 all_goals obtain rfl | rfl | rfl | rfl | rfl : k = 0 ∨ k = 1 ∨ k = 2 ∨ k = 3 ∨ k = 4 := by omega
 all_goals kernel_rfl
theorem come_two (i : Nat) (hi : i < 2) : (comeL 5).take (12 * i + 2) = (comeL 5).take (12 * i) ++ [⟨0, 5, 0, 0, 0, 0⟩, ⟨0, 5, 1, 0, 0, 0⟩] := by
 obtain rfl | rfl : i = 0 ∨ i = 1 := by omega
 all_goals kernel_rfl
theorem come_one (i j k : Nat) (hi : i < 2) (hj : j < 2) (hk : k < 5) : (comeL 5).take (12 * i + 2 + 5 * j + (k + 1)) = (comeL 5).take (12 * i + 2 + 5 * j + k) ++ [⟨0, 6, j, 0, 0, 0⟩] := by
 rw [← come_at i j k hi hj hk]
 exact take_snoc (i := 12 * i + 2 + 5 * j + k) _ (by rw [come_len]; omega)
structure Cg (w wr : World) (v0 : Value) (base : Nat) (v : Value) (L : List Dd) : Prop where
 row : Row kDd 74 wr base v L
 bel : Below base w wr
 size : base ≤ wr.heap.size
 keep : ∀ k, k < w.heap.size → v0.ownBlock ≠ some k → wr.heap[k]? = w.heap[k]?
 own : ∀ k, v.ownBlock = some k → v0.ownBlock = some k ∨ w.heap.size ≤ k
 big : w.heap.size ≤ wr.heap.size
theorem Cg.grow {w wr X w2 : World} {base : Nat} {v0 v v2 : Value} {L : List Dd} (C : Cg w wr v0 base v L) (hb : Below wr.heap.size wr X) (L2 : List Dd) (hr : Row kDd 74 w2 base v2 L2) (hg : X.grownBy w2 v.ownBlock) (hat : ∀ j, v2.ownBlock = some j → v.ownBlock = some j ∨ X.heap.size ≤ j) : Cg w w2 v0 base v2 L2 :=
 ⟨hr, below_grown (C.bel.trans (hb.mono C.size)) hg (C.row.below hb) (Nat.le_refl _) (Nat.le_trans C.size hb.size), Nat.le_trans (Nat.le_trans C.size hb.size) hg.size,
  fun k hk hne => (hg.block k (Nat.lt_of_lt_of_le hk (Nat.le_trans C.big hb.size)) fun e => by
   rcases C.own k e.symm with h | h
   ·exact hne h
   ·omega).trans ((hb.block k (Nat.lt_of_lt_of_le hk C.big)).trans (C.keep k hk hne)),
  fun j hj => by
   rcases hat j hj with h | h
   ·exact C.own j h
   ·exact Or.inr (Nat.le_trans (Nat.le_trans C.big hb.size) h),
  Nat.le_trans (Nat.le_trans C.big hb.size) hg.size⟩
theorem cg_start {w : World} {v : Value} {base : Nat} {L : List Dd} (h : Row kDd 74 w base v L) (hs : base ≤ w.heap.size) : Cg w w v base v L := ⟨h, Below.refl _ _, hs, fun _ _ _ => rfl, fun _ h => Or.inl h, Nat.le_refl _⟩
theorem come_any (v : Value) (l : List Dd) (base : Nat) (w : World) (hl : Row kDd 74 w base v l) (hs : base ≤ w.heap.size) (h100 : l.length ≤ 100) :
  Calls Tryz.prog 38 #[v] w fun e w' => ∃ v', e = .returned v' ∧ Cg w w' v base v' (l ++ comeL 5) := by
 have hD := fun (k n s : Int) (X : World) => tdo_any k n s X
 unfold ddv at hD
 go_enter Tryz.func38, Tryz.ntmps38
 go_upto_region 2 with fail
 go_loopw [4, 0] (fun i vo wr => ∃ (k : Nat), k ≤ 2 ∧ i = .int .i64 k ∧ Cg w wr v base vo (l ++ (comeL 5).take (12 * k))) (fun i _ _ => 2 - (intOf i).toNat)
 case atStart => exact ⟨0, by omega, rfl, cg_start (by simpa using hl) hs⟩
 case round =>
  obtain ⟨i, hi, rfl, C⟩ := hrel
  by_cases hlt : i < 2
  ·have hlt' : (i : Int) < 2 := by omega
   have hlen : (l ++ (comeL 5).take (12 * i)).length ≤ 124 := by rw [List.length_append, List.length_take, come_len]; omega
   have h2 := hid (come_two i hlt)
   have hCL : Hid ((comeL 5).length = 24) := hid come_len
   go_upto_region 3 with fail
   go_wp2_with fail
   refine (hD _ _ _ _).mono ?_
   rintro _ w2 ⟨rfl, hb2⟩
   go_wp2_with fail
   refine (hD _ _ _ _).mono ?_
   rintro _ w3 ⟨rfl, hb3⟩
   have hb4 := below_alloc w3 (.cells #[.int .i64 0, .int .i64 5, .int .i64 0, .int .i64 0, .int .i64 0, .int .i64 0, .int .i64 0, .int .i64 5, .int .i64 1, .int .i64 0, .int .i64 0, .int .i64 0] 74)
   have hone : Gn.Lies kDd (w3.alloc (.cells #[.int .i64 0, .int .i64 5, .int .i64 0, .int .i64 0, .int .i64 0, .int .i64 0, .int .i64 0, .int .i64 5, .int .i64 1, .int .i64 0, .int .i64 0, .int .i64 0] 74)) (some ⟨w3.heap.size, 0, none⟩) 2 [⟨0, 5, 0, 0, 0, 0⟩, ⟨0, 5, 1, 0, 0, 0⟩] := lies_blk (K := kDd) (L := [⟨0, 5, 0, 0, 0, 0⟩, ⟨0, 5, 1, 0, 0, 0⟩]) (heap_alloc_at _ _ _ rfl) rfl (by simp [maxLen]) _
   have hbX := (hb2.trans (hb3.mono hb2.size)).trans (hb4.mono (Nat.le_trans hb2.size hb3.size))
   have hrow := C.row.below hbX
   have hsz := Nat.le_trans C.size hbX.size
   clear hb2 hb3 hb4
   go_upto_region 4 with (at_builtin; refine wpList_append elemDd _ rfl _ _ rfl base u0 (l ++ (comeL 5).take (12 * i)) rfl hrow _ 2 2 [⟨0, 5, 0, 0, 0, 0⟩, ⟨0, 5, 1, 0, 0, 0⟩] rfl rfl hone (by simp [maxLen] at hlen ⊢; omega) (by simp at hlen ⊢; omega) hsz ?_; intro v2 w4 hown hgrow hat hon)
   have C2 := C.grow hbX _ hown hgrow hat
   rw [List.append_assoc, ← h2.out] at C2
   clear hown hgrow hat hon C hrow hsz hbX hone h2 hlen
   go_upto_region 5 with fail
   go_loopw [11, 0] (fun x vo wr => ∃ (j : Nat), j ≤ 2 ∧ x = .int .i64 j ∧ Cg w wr v base vo (l ++ (comeL 5).take (12 * i + 2 + 5 * j))) (fun x _ _ => 2 - (intOf x).toNat)
   case atStart => exact ⟨0, by omega, rfl, C2⟩
   case round =>
    clear C2
    obtain ⟨j, hj, rfl, C⟩ := hrel
    by_cases hjt : j < 2
    ·have hjt' : (j : Int) < 2 := by omega
     go_upto_region 8 with fail
     go_loopw [14, 0] (fun x vo wr => ∃ (k : Nat), k ≤ 5 ∧ x = .int .i64 k ∧ Cg w wr v base vo (l ++ (comeL 5).take (12 * i + 2 + 5 * j + k))) (fun x _ _ => 5 - (intOf x).toNat)
     case atStart => exact ⟨0, by omega, rfl, C⟩
     case round =>
      clear C
      obtain ⟨k, hk, rfl, C⟩ := hrel
      by_cases hkt : k < 5
      ·have hkt' : (k : Int) < 5 := by omega
       have h3 := hid (come_one i j k hlt hjt hkt)
       have hlen : (l ++ (comeL 5).take (12 * i + 2 + 5 * j + k)).length ≤ 124 := by rw [List.length_append, List.length_take, hCL.out]; omega
       go_upto_region 9 with fail
       go_wp2_with fail
       refine (hD _ _ _ _).mono ?_
       rintro _ w3 ⟨rfl, hb3⟩
       have hb4 := below_alloc w3 (.cells #[.int .i64 0, .int .i64 6, .int .i64 j, .int .i64 0, .int .i64 0, .int .i64 0] 74)
       have hone : Gn.Lies kDd (w3.alloc (.cells #[.int .i64 0, .int .i64 6, .int .i64 j, .int .i64 0, .int .i64 0, .int .i64 0] 74)) (some ⟨w3.heap.size, 0, none⟩) 1 [⟨0, 6, j, 0, 0, 0⟩] := lies_blk (K := kDd) (L := [⟨0, 6, j, 0, 0, 0⟩]) (heap_alloc_at _ _ _ rfl) rfl (by simp [maxLen]) _
       have hbX := hb3.trans (hb4.mono hb3.size)
       have hrow := C.row.below hbX
       have hsz := Nat.le_trans C.size hbX.size
       clear hb3 hb4
       go_wp2_with (at_builtin; refine wpList_append elemDd _ rfl _ _ rfl base u0 (l ++ (comeL 5).take (12 * i + 2 + 5 * j + k)) rfl hrow _ 1 1 [⟨0, 6, j, 0, 0, 0⟩] rfl rfl hone (by simp [maxLen] at hlen ⊢; omega) (by simp at hlen ⊢; omega) hsz ?_; intro v2 w4 hown hgrow hat hon)
       have C2 := C.grow hbX _ hown hgrow hat
       rw [List.append_assoc, ← h3.out] at C2
       go_roundw
       case rel => exact ⟨k + 1, by omega, by go_num, C2⟩
       case measure => simp [intOf]; omega
      ·obtain rfl : k = 5 := by omega
       go_wp2_with fail
       go_roundw
       case rel => exact ⟨j + 1, by omega, by go_num, by rw [show 12 * i + 2 + 5 * (j + 1) = 12 * i + 2 + 5 * j + 5 by omega]; exact C⟩
       case measure => simp [intOf]; omega
    ·obtain rfl : j = 2 := by omega
     go_wp2_with fail
     go_roundw
     case rel => exact ⟨i + 1, by omega, by go_num, by rw [show 12 * (i + 1) = 12 * i + 2 + 5 * 2 by omega]; exact C⟩
     case measure => simp [intOf]; omega
  ·obtain rfl : i = 2 := by omega
   go_wp2_with fail
   exact bodyPost_ret (results_tmp Tryz.results38 _ _ _) rfl ⟨_, rfl, by rw [show comeL 5 = (comeL 5).take (12 * 2) from by kernel_rfl]; exact C⟩
open Go.RowKit Go.Proofs.YtofcnebekmjdoaaGreatDoor.Gn Go.Maps
def thr : List Dd := [⟨0, 1, 0, 0, 0, 100⟩, ⟨0, 2, 0, 0, 0, 60⟩, ⟨0, 3, 0, 0, 3, 40⟩]
theorem fit0 {l : List Dd} (h : ∀ d ∈ l, d.id = 0) : ∀ d ∈ l, FitD d := fun d hd => by
 unfold FitD
 rw [h d hd]
 exact ⟨by decide, by decide⟩
theorem come0 : ∀ d ∈ comeL 5, d.id = 0 := by
 intro d hd
 unfold comeL roundL at hd
 simp only [List.mem_append, List.mem_cons, List.mem_replicate, List.not_mem_nil, or_false] at hd
 rcases hd with ((((rfl | rfl) | ⟨-, rfl⟩) | ⟨-, rfl⟩) | (((rfl | rfl) | ⟨-, rfl⟩) | ⟨-, rfl⟩)) <;> rfl
theorem two_of {α : Type} {l : List α} (h : l.length = 2) : ∃ x y, l = [x, y] := by
 match l, h with
 | [x, y], _ => exact ⟨x, y, rfl⟩
theorem talive_plain : (playR psT 2 0 (thr ++ comeL 5)).2.2 = (0, 0) ∧ (playR psT 2 0 (thr ++ comeL 5)).1.due = [40, 0] ∧ (playR psT 2 0 (thr ++ comeL 5)).1.cards.map (fun c => (c.m, c.h)) = [(60, 0), (0, 0)] := ⟨by kernel_rfl, by kernel_rfl, by kernel_rfl⟩
theorem talive_facts {w w' : World} {v : Vs} {cs : List CV} {ds : List DV} (SH : Shows w (playR psT 2 0 (thr ++ comeL 5)).1 v cs ds) (hb : Below w.heap.size w w') :
  ∃ z2 o2 c2 z3 o3 c3, v.d = .slice (some ⟨z2, o2, none⟩) 2 c2 ∧ w'.cell? ⟨z2, o2, none⟩ = some (.int .i64 40) ∧ v.c = .slice (some ⟨z3, o3, none⟩) 2 c3 ∧ w'.cell? ⟨z3, o3, none⟩ = some (.int .i64 60) ∧ w'.cell? ⟨z3, o3 + 1, none⟩ = some (.int .i64 0) := by
 obtain ⟨-, p3, p4⟩ := talive_plain
 have SH' := SH.below hb
 have hd := SH'.due
 have hc := SH'.cards
 have hcs := SH'.csv
 rw [p3] at hd
 have hcm : cs.map (fun x => (x.c.m, x.c.h)) = [(60, 0), (0, 0)] := by rw [← p4, ← hcs, List.map_map]; rfl
 obtain ⟨x, y, rfl⟩ := two_of (l := cs) (by have := congrArg List.length hcm; simpa using this)
 simp at hcm
 obtain ⟨a2, c2, h2, l2⟩ := hd.lies
 obtain ⟨a3, c3, h3, l3⟩ := hc.lies
 obtain ⟨z2, o2, rfl, -, f2⟩ := l2.elem (i := 0) (x := 40) rfl
 obtain ⟨z3, o3, rfl, -, f3⟩ := l3.elem (i := 0) (x := x) rfl
 refine ⟨z2, o2, c2, z3, o3, c3, h2, by simpa using f2 0 _ rfl, h3, ?_, ?_⟩
 ·have := f3 0 _ rfl
  simpa [hcm.1.1] using this
 ·have := f3 1 _ rfl
  simpa [hcm.1.2] using this
theorem talive_any (w : World) (O : Oth w) : Calls Tryz.prog 36 #[] w fun e w' => e = .returned (.bool true) ∧ Below w.heap.size w w' := by
 have hS := fun (X : World) => tsetup_any 0 X
 have hD := fun (k n s : Int) (X : World) => tdo_any k n s X
 have hM := fun (k n s : Int) (X : World) => tmove_any k n s X
 unfold ddv at hD hM
 have hC := fun (X : World) (v : Value) (base : Nat) (h1 : Row kDd 74 X base v thr) (h2 : base ≤ X.heap.size) => come_any v thr base X h1 h2 (by simp [thr])
 have hlen : (thr ++ comeL 5).length = 27 := by rw [List.length_append, come_len]; rfl
 have hP := fun (W : World) (a : Option Addr) (c : Nat) (al : Option Addr) (cl : Nat) (h : Gn.Lies kPa W a c psT) (hd : Gn.Lies kDd W al cl (thr ++ comeL 5)) (hO : Oth W) => play_any psT a c 2 0 al cl (thr ++ comeL 5) W h hd (fit0 fun d hd => by
  rcases List.mem_append.1 hd with h | h
  ·simp [thr] at h; rcases h with rfl | rfl | rfl <;> rfl
  ·exact come0 d h) hO
 have hF := fun (W W' : World) (v : Vs) (cs : List CV) (ds : List DV) (SH : Shows W (playR psT 2 0 (thr ++ comeL 5)).1 v cs ds) (hb : Below W.heap.size W W') => talive_facts SH hb
 have hf := talive_plain.1
 generalize playR psT 2 0 (thr ++ comeL 5) = r at *
 have hl1 : psT.length = 2 := rfl
 rw [hl1, hlen] at hP
 unfold suv at hS hP
 unfold Plays at hP
 rw [hf] at hP
 obtain ⟨b, A, f⟩ := r
 dsimp only at hP hF
 simp only [bkv_cells] at hP
 unfold Dy.fv at hP
 clear hf hl1
 go_enter Tryz.func36, Tryz.ntmps36
 go_upto_region 1 with fail
 go_upto_region 2 with fail
 refine (hS _).mono ?_
 rintro _ w1 ⟨za, c, rfl, hl, hb1, -⟩
 go_upto_region 2 with fail
 refine (hD _ _ _ _).mono ?_
 rintro _ w2 ⟨rfl, hb2⟩
 go_upto_region 2 with fail
 refine (hD _ _ _ _).mono ?_
 rintro _ w3 ⟨rfl, hb3⟩
 go_upto_region 2 with fail
 refine (hM _ _ _ _).mono ?_
 rintro _ w4 ⟨rfl, hb4⟩
 have hb14 := (hb2.trans (hb3.mono hb2.size)).trans (hb4.mono (Nat.le_trans hb2.size hb3.size))
 have hbw4 : Below w.heap.size w w4 := hb1.trans (hb14.mono hb1.size)
 have hl4 := hl.below hb14
 have e5 := below_alloc w4 (.cells #[.int .i64 0, .int .i64 1, .int .i64 0, .int .i64 0, .int .i64 0, .int .i64 100, .int .i64 0, .int .i64 2, .int .i64 0, .int .i64 0, .int .i64 0, .int .i64 60, .int .i64 0, .int .i64 3, .int .i64 0, .int .i64 0, .int .i64 3, .int .i64 40] 74)
 have hd5 : Gn.Lies kDd (w4.alloc (.cells #[.int .i64 0, .int .i64 1, .int .i64 0, .int .i64 0, .int .i64 0, .int .i64 100, .int .i64 0, .int .i64 2, .int .i64 0, .int .i64 0, .int .i64 0, .int .i64 60, .int .i64 0, .int .i64 3, .int .i64 0, .int .i64 0, .int .i64 3, .int .i64 40] 74)) (some ⟨w4.heap.size, 0, none⟩) 3 thr := lies_blk (K := kDd) (L := thr) (heap_alloc_at _ _ _ rfl) (by kernel_rfl) (by simp [thr, maxLen]) _
 have hR5 : Row kDd 74 (w4.alloc (.cells #[.int .i64 0, .int .i64 1, .int .i64 0, .int .i64 0, .int .i64 0, .int .i64 100, .int .i64 0, .int .i64 2, .int .i64 0, .int .i64 0, .int .i64 0, .int .i64 60, .int .i64 0, .int .i64 3, .int .i64 0, .int .i64 0, .int .i64 3, .int .i64 40] 74)) w4.heap.size (.slice (some ⟨w4.heap.size, 0, none⟩) 3 3) thr := Row.full (L := thr) w4.heap.size (Nat.le_refl _) hd5 (by simp)
 have hC5 := hC _ _ _ hR5 (by simp)
 clear hS hD hM hC hR5 hd5 hl hb1 hb2 hb3 hb4 hb14 hlen
 go_upto_region 2 with fail
 refine hC5.mono ?_
 rintro _ w5 ⟨v5, rfl, C5⟩
 obtain ⟨al, cl, rfl, hd6, -⟩ := C5.row.lies
 have hb5 : Below w4.heap.size w4 w5 := e5.trans C5.bel
 have hbw5 : Below w.heap.size w w5 := hbw4.trans (hb5.mono hbw4.size)
 have hP1 := hP w5 _ c al cl (hl4.below hb5) hd6 (O.keep (hbw5.block 0 O.lt))
 have hlen : (thr ++ comeL 5).length = 27 := by rw [List.length_append, come_len]; rfl
 rw [hlen]
 clear hC5 hP hl4 e5 C5 hd6 hlen hb5
 go_upto_region 2 with (first
  | (go_at_call 18; refine hP1.mono ?_; rintro _ w2 ⟨v, cs, ds, va, rfl, SH, AP, hb3⟩; obtain ⟨G1, G2, G3, G4, G5⟩ := got_box w2 #[.int .i64 0, .bool false, .slice none 0 0, .slice none 0 0, .slice none 0 0, .int .i64 0, .slice none 0 0, .int .i64 0, .slice none 0 0, .int .i64 0, .int .i64 0, .slice none 0 0, .slice none 0 0, .int .i64 0, .slice none 0 0, .slice none 0 0, .slice none 0 0, .slice none 0 0, .slice none 0 0] rfl b v (0, 0); have hF1 := hF _ _ _ _ _ SH G5; replace G3 := bko_cells G3; obtain ⟨t0, t1, t2, t3⟩ := fo_cells G2; obtain ⟨y0, y1, y2, y3⟩ := fo_cells G4; have hone := hid SH.one; have hinf : Hid ((Tryz.prog.info? 43).map (·.size) = some (cellsK b v).size) := hid infoK; have hb4 : Below w.heap.size w _ := (hbw5.trans (hb3.mono hbw5.size)).trans (G5.mono ((hbw5.trans (hb3.mono hbw5.size)).size)); dsimp only at t0 t1 y0 y1 G3 hb4 hF1; clear G4 G5 SH AP G2 hP1 hF; generalize cellsK b v = cc at *)
  | (refine wpList_store_mid rfl 43 _ _ rfl w2.heap.size 0 cc rfl rfl G1 hinf.out hone.out ?_))
 generalize ((((w2.alloc (.cells #[.int .i64 0, .bool false, .slice none 0 0, .slice none 0 0, .slice none 0 0, .int .i64 0, .slice none 0 0, .int .i64 0, .slice none 0 0, .int .i64 0, .int .i64 0, .slice none 0 0, .slice none 0 0, .int .i64 0, .slice none 0 0, .slice none 0 0, .slice none 0 0, .slice none 0 0, .slice none 0 0] 43)).alloc (.cells #[.int .i64 0, .int .i64 0] 47)).setCells w2.heap.size 0 cc.toList).setCell ⟨w2.heap.size + 1, 0, none⟩ (.int .i64 0)).setCell ⟨w2.heap.size + 1, 1, none⟩ (.int .i64 0) = Z at *
 obtain ⟨-, -, c2, c3, -⟩ := G3
 obtain ⟨z2, o2, c2', z3, o3, c3', hvd, f2, hvc, f3, f4⟩ := hF1
 rw [hvd] at c3
 rw [hvc] at c2
 clear hvd hvc G1 t0 t1 t2 t3 hb3 hbw5 hbw4
 go_wp2_with fail
 exact bodyPost_ret (results_tmp Tryz.results36 _ _ _) rfl ⟨rfl, hb4⟩
end Go.Proofs.YtofcnebekmjdoaaGreatDoor.Bn
