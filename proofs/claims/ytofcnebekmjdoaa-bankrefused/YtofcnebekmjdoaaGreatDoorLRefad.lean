import Derived.Test.YtofcnebekmjdoaaGreatDoorLRefac
set_option maxHeartbeats 4000000
set_option maxRecDepth 100000
namespace Go.Proofs.YtofcnebekmjdoaaGreatDoor.Bn
open Go.Proofs.YtofcnebekmjdoaaGreatDoor
def Named (b : Bank) (acc : Int) : Prop := acc = 0 ∨ acc = 1 ∨ acc = 2 ∨ (10 ≤ acc ∧ acc < 10 + b.cards.length) ∨ (50 ≤ acc ∧ acc < 50 + b.due.length)
def outD (b : Bank) (d : Dd) : Int := if (doB b d).2.1 = 0 then (if d.kind = 1 then -d.sum else if d.kind = 11 then b.dueOf d.n else 0) else 0
structure Accts (b x : Bank) (o : Int) : Prop where
 out : Bk.getE x.book 0 = Bk.getE b.book 0 + o
 none : ∀ acc, ¬ Named b acc → Bk.getE x.book acc = Bk.getE b.book acc
 cards : x.cards.length = b.cards.length
 due : x.due.length = b.due.length
theorem accts_same {b x : Bank} (h1 : x.book = b.book) (h2 : x.cards.length = b.cards.length) (h3 : x.due.length = b.due.length) : Accts b x 0 := ⟨by rw [h1]; omega, fun acc _ => by rw [h1], h2, h3⟩
theorem accts_move {b x : Bank} {src dst n : Int} (h : (moveB b.book src dst n).2 = 0) (h1 : x.book = (moveB b.book src dst n).1) (hs : Named b src) (hd : Named b dst) (h2 : x.cards.length = b.cards.length) (h3 : x.due.length = b.due.length) :
  Accts b x ((if src = 0 then -n else 0) + (if dst = 0 then n else 0)) := by
 obtain ⟨-, m2⟩ := moveB_zero h
 refine ⟨by rw [h1, m2]; omega, fun acc ha => ?_, h2, h3⟩
 rw [h1, m2, if_neg (show ¬ src = acc from fun e => ha (e ▸ hs)), if_neg (show ¬ dst = acc from fun e => ha (e ▸ hd))]; omega
theorem accts_in {b x : Bank} {src dst n : Int} (h : (moveB b.book src dst n).2 = 0) (h1 : x.book = (moveB b.book src dst n).1) (hs : Named b src) (hd : Named b dst) (s0 : src ≠ 0) (d0 : dst ≠ 0) (h2 : x.cards.length = b.cards.length) (h3 : x.due.length = b.due.length) : Accts b x 0 := by
 have := accts_move h h1 hs hd h2 h3
 rwa [if_neg s0, if_neg d0] at this
theorem load_accts {b : Bank} {d : Dd} (h : (loadB b d).2 = 0) : Accts b (loadB b d).1 (-d.sum) := by
 unfold loadB at h ⊢
 split at h
 ·cases h
 rename_i h1
 rw [if_neg h1]
 split at h
 ·cases h
 rename_i h2
 rw [if_neg h2]
 split at h
 ·rename_i h3; exact absurd h h3
 rename_i h3
 rw [if_neg h3]
 split at h
 ·rename_i h4; exact absurd h h4
 rename_i h4
 rw [if_neg h4]
 have := accts_move (x := { b with cards := b.cards.set d.n.toNat (shiftC (b.card d.n) 0 d.sum).1, book := (moveB b.book 0 (10 + d.n) d.sum).1 }) (Decidable.not_not.1 h4) rfl (Or.inl rfl) (by unfold Named; omega) (by simp) rfl
 rwa [if_pos rfl, if_neg (by omega), Int.add_zero] at this
theorem pay_accts {b : Bank} {d : Dd} (h : (payB b d).2 = 0) : Accts b (payB b d).1 (b.dueOf d.n) := by
 unfold payB at h ⊢
 split at h
 ·cases h
 rename_i h1
 rw [if_neg h1]
 split at h
 ·cases h
 rename_i h2
 rw [if_neg h2]
 split at h
 ·rename_i h3; exact absurd h h3
 rename_i h3
 rw [if_neg h3]
 have := accts_move (x := { b with due := b.due.set d.n.toNat 0, book := (moveB b.book (50 + d.n) 0 (b.dueOf d.n)).1 }) (Decidable.not_not.1 h3) rfl (by unfold Named; omega) (Or.inl rfl) rfl (by simp)
 rwa [if_neg (by omega), if_pos rfl, Int.zero_add] at this
theorem move_accts {b : Bank} {d : Dd} (I : Inv b) (h : (moveD b d).2 = 0) : Accts b (moveD b d).1 0 := by
 unfold moveD at h ⊢
 split at h
 ·cases h
 rename_i q1
 rw [if_neg q1]
 split at h
 ·cases h
 rename_i q2
 rw [if_neg q2]
 split at h
 ·rename_i q; exact absurd h q
 rename_i q3
 rw [if_neg q3]
 split at h
 ·cases h
 rename_i q4
 rw [if_neg q4]
 split at h
 ·rename_i q; exact absurd h q
 rename_i q5
 rw [if_neg q5]
 split at h
 ·rename_i q; exact absurd h q
 rename_i q6
 rw [if_neg q6]
 split at h
 ·rename_i q; exact absurd h q
 rename_i q7
 rw [if_neg q7]
 split at h
 ·cases h
 rename_i q8
 rw [if_neg q8]
 replace q6 : (bookBy b.book (b.auth d.n) d.mv d.sum).2 = 0 := Decidable.not_not.1 q6
 obtain ⟨r1, -, r3, r4⟩ := I.held.auth (k := d.n) (by omega) (by omega)
 have hc0 : 0 ≤ (b.auth d.n).card := r1.2.2.2.2.1.1
 have hs0 : 0 ≤ (b.auth d.n).shop := r1.2.2.2.2.2.1.1
 have e1 : (moveAll b d).book = (bookBy b.book (b.auth d.n) d.mv d.sum).1 := rfl
 have e2 : (moveAll b d).cards.length = b.cards.length := by simp [moveAll]
 have e3 : (moveAll b d).due.length = b.due.length := by simp [moveAll]
 have nc : Named b (10 + (b.auth d.n).card) := by unfold Named; omega
 have ns : Named b (50 + (b.auth d.n).shop) := by unfold Named; omega
 have n1 : Named b 1 := Or.inr (Or.inl rfl)
 have n2 : Named b 2 := Or.inr (Or.inr (Or.inl rfl))
 unfold bookBy at q6 e1
 split at q6
 ·rename_i k; rw [if_pos k] at e1
  exact accts_in q6 e1 nc n1 (by omega) (by omega) e2 e3
 rename_i k; rw [if_neg k] at e1
 split at q6
 ·rename_i k; rw [if_pos k] at e1
  exact accts_in q6 e1 ns n1 (by omega) (by omega) e2 e3
 rename_i k; rw [if_neg k] at e1
 split at q6
 ·rename_i k; rw [if_pos k] at e1
  exact accts_in q6 e1 n2 nc (by omega) (by omega) e2 e3
 rename_i k; rw [if_neg k] at e1
 split at q6
 ·rename_i k; rw [if_pos k] at e1
  exact accts_in q6 e1 nc n2 (by omega) (by omega) e2 e3
 rename_i k; rw [if_neg k] at e1
 exact accts_same e1 e2 e3
theorem arrive_accts {b : Bank} {d : Dd} {lost : Bool} (I : Inv b) (h : (arriveB b d lost).2 = 0) : Accts b (arriveB b d lost).1 0 := by
 unfold arriveB at h ⊢
 by_cases h1 : d.n < 0 ∨ 1 < d.n
 ·rw [if_pos h1] at h; cases h
 rw [if_neg h1] at h ⊢
 generalize sideOf d.n = i at *
 cases hw : b.way i with
 | nil => rw [hw] at h; cases h
 | cons p r =>
  rw [hw] at h
  dsimp only at h ⊢
  cases lost with
  | true => rw [if_pos rfl]; exact accts_same rfl rfl rfl
  | false =>
   rw [if_neg (by simp)] at h ⊢
   have hp := I.sent.ways i p (by rw [hw]; exact List.mem_cons_self)
   unfold arriveAt at h ⊢
   by_cases h2 : 0 ≤ p.seen
   ·rw [if_pos h2] at h ⊢
    split at h
    ·rename_i h3; exact absurd h h3
    rename_i h3
    rw [if_neg h3]
    exact accts_same rfl rfl rfl
   ·rw [if_neg h2] at h ⊢
    by_cases h3 : p.t.n ≠ b.seen i + 1 ∨ 1000000 ≤ b.seen i
    ·rw [if_pos h3]; exact accts_same rfl rfl rfl
    ·rw [if_neg h3] at h ⊢
     have ht : p.t ∈ (b.snd (!i)).kept := by
      rcases hp with ⟨-, g1 | g1⟩ | ⟨g1, -⟩
      ·omega
      ·exact g1
      ·omega
     have hin := kept_in I (!i) p.t ht
     obtain ⟨r1, -, r3, r4⟩ := I.held.auth hin.1 hin.2
     have hc0 : 0 ≤ (b.auth p.t.a).card := r1.2.2.2.2.1.1
     have hs0 : 0 ≤ (b.auth p.t.a).shop := r1.2.2.2.2.2.1.1
     have nc : Named b (10 + (b.auth p.t.a).card) := by unfold Named; omega
     have ns : Named b (50 + (b.auth p.t.a).shop) := by unfold Named; omega
     have n1 : Named b 1 := Or.inr (Or.inl rfl)
     have n2 : Named b 2 := Or.inr (Or.inr (Or.inl rfl))
     unfold comes at h ⊢
     by_cases k1 : p.t.k = 1
     ·rw [if_pos k1] at h ⊢
      split at h
      ·rename_i q; exact absurd h q
      rename_i q
      rw [if_neg q]
      exact accts_in (Decidable.not_not.1 q) rfl n1 ns (by omega) (by omega) rfl (by simp)
     rw [if_neg k1] at h ⊢
     by_cases k2 : p.t.k = 2
     ·rw [if_pos k2] at h ⊢
      split at h
      ·rename_i q; exact absurd h q
      rename_i q
      rw [if_neg q]
      split at h
      ·rename_i q2; exact absurd h q2
      rename_i q2
      rw [if_neg q2]
      exact accts_in (Decidable.not_not.1 q2) rfl n1 nc (by omega) (by omega) (by simp) rfl
     rw [if_neg k2] at h ⊢
     by_cases k3 : p.t.k = 3
     ·rw [if_pos k3] at h ⊢
      split at h
      ·rename_i q; exact absurd h q
      rename_i q
      rw [if_neg q]
      exact accts_in (Decidable.not_not.1 q) rfl ns n2 (by omega) (by omega) rfl (by simp)
     rw [if_neg k3]
     exact accts_same rfl rfl rfl
theorem fold_len {α : Type} (f : List Ca → α → List Ca) (hf : ∀ cs a, (f cs a).length = cs.length) (L : List α) : ∀ cs, (L.foldl f cs).length = cs.length := by
 induction L with
 | nil => intro cs; rfl
 | cons x r ih => intro cs; rw [List.foldl_cons, ih, hf]
theorem shut_cards (b : Bank) : (shutB b).cards.length = b.cards.length := fold_len _ (fun cs a => by simp [lateC]) _ _
theorem do_accts {b : Bank} {d : Dd} (I : Inv b) : Accts b (doB b d).1 (outD b d) := by
 by_cases h : (doB b d).2.1 = 0
 case neg =>
  have : outD b d = 0 := by unfold outD; rw [if_neg h]
  rw [doB_refused b d h, this]; exact accts_same rfl rfl rfl
 have ho : outD b d = (if d.kind = 1 then -d.sum else if d.kind = 11 then b.dueOf d.n else 0) := by unfold outD; rw [if_pos h]
 rw [ho]
 clear ho
 unfold doB at h ⊢
 by_cases k1 : d.kind = 1
 ·rw [if_pos k1] at h ⊢
  rw [if_pos k1]
  exact load_accts h
 rw [if_neg k1] at h ⊢
 rw [if_neg k1]
 by_cases k11 : d.kind = 11
 ·rw [if_neg (by omega), if_neg (by omega), if_neg (by omega), if_neg (by omega), if_neg (by omega), if_neg (by omega), if_neg (by omega), if_neg (by omega), if_neg (by omega), if_pos k11] at h ⊢
  rw [if_pos k11]
  exact pay_accts h
 have h0 : (if d.kind = 11 then b.dueOf d.n else (0 : Int)) = 0 := if_neg k11
 rw [h0]
 clear h0
 split at h
 ·rename_i e; rw [if_pos e]
  unfold askB askDown askUp
  repeat' split
  all_goals exact accts_same rfl (by simp) rfl
 rename_i e; rw [if_neg e]
 split at h
 ·rename_i e; rw [if_pos e]; exact move_accts I h
 rename_i e; rw [if_neg e]
 split at h
 ·rename_i e; rw [if_pos e]
  unfold two tickB
  split
  ·exact accts_same rfl rfl rfl
  split
  ·exact accts_same rfl rfl rfl
  ·exact accts_same rfl (shut_cards _) rfl
 rename_i e; rw [if_neg e]
 split at h
 ·rename_i e; rw [if_pos e]
  unfold two sendB
  repeat' split
  all_goals exact accts_same rfl rfl rfl
 rename_i e; rw [if_neg e]
 split at h
 ·rename_i e; rw [if_pos e]; exact arrive_accts I h
 rename_i e; rw [if_neg e]
 split at h
 ·rename_i e; rw [if_pos e]; exact arrive_accts I h
 rename_i e; rw [if_neg e]
 split at h
 ·rename_i e; rw [if_pos e]
  unfold two downB
  repeat' split
  all_goals exact accts_same rfl rfl rfl
 rename_i e; rw [if_neg e]
 split at h
 ·rename_i e; rw [if_pos e]
  unfold two upB
  split
  ·exact accts_same rfl ((shut_cards _).trans (fold_len _ (fun cs a => by simp [forceL]) _ _)) rfl
  ·exact accts_same rfl rfl rfl
 rename_i e; rw [if_neg e]
 split at h
 ·rename_i e; rw [if_pos e]; exact accts_same rfl rfl rfl
 rename_i e; rw [if_neg e, if_neg k11]
 exact accts_same rfl rfl rfl
structure Still (b x : Bank) : Prop where
 plain : Plain b x
 cards : x.cards.length = b.cards.length
 due : x.due.length = b.due.length
 cb : ∀ k, k < b.cards.length → cbal k x = cbal k b
 db : ∀ k, bal k x = bal k b
 out : Bk.getE x.book 0 = Bk.getE b.book 0
theorem Still.trans {a b c : Bank} (h : Still a b) (h2 : Still b c) : Still a c :=
 ⟨⟨h2.plain.auths.trans h.plain.auths, h2.plain.time.trans h.plain.time, h2.plain.down.trans h.plain.down, h2.plain.stand.trans h.plain.stand, h2.plain.today.trans h.plain.today, h2.plain.days.trans h.plain.days⟩, h2.cards.trans h.cards, h2.due.trans h.due,
  fun k hk => (h2.cb k (by rw [h.cards]; exact hk)).trans (h.cb k hk), fun k => (h2.db k).trans (h.db k), h2.out.trans h.out⟩
def dMove (mv n sum : Int) : Dd := ⟨0, 3, n, 0, mv, sum⟩
theorem put_ok {s : Po.Se} {t : Po.Tr} (R : Po.Right s) (h1 : s.kept.length < 40) (h2 : s.sent < 1000000) (hk : 1 ≤ t.k ∧ t.k ≤ 3) (ha : 0 ≤ t.a ∧ t.a < 30) (hs : 1 ≤ t.s ∧ t.s ≤ 1000000) : (Po.putS s t).2 = 0 := by
 have R2 : Po.Right (Po.outS s t) := by
  refine ⟨by simp [Po.outS]; omega, ?_, by simp [Po.outS]; omega, ?_⟩
  ·have := R.lo
   simp [Po.outS]; omega
  ·intro i x hx
   unfold Po.outS at hx ⊢
   dsimp only at hx ⊢
   rw [List.length_append, List.length_singleton]
   by_cases hi : i < s.kept.length
   ·rw [List.getElem?_append_left hi] at hx
    obtain ⟨e1, e2, e3⟩ := R.each i x hx
    exact ⟨e1, e2, by omega⟩
   ·rw [List.getElem?_append_right (by omega)] at hx
    have hi2 : i = s.kept.length := by
     have := (List.getElem?_eq_some_iff.1 hx).1
     simp at this; omega
    subst hi2
    simp at hx
    subst hx
    refine ⟨?_, ?_, ?_⟩
    ·show ¬ Po.noKind t.k
     unfold Po.noKind; omega
    ·show ¬ Po.far t.a t.s
     unfold Po.far; omega
    ·show s.sent + 1 = _
     omega
 rw [Po.putS_ok (Po.wrongS_ok.2 R) (Po.wrongS_ok.2 R2)]
theorem move_done {K : Nat} {b : Bank} {mv n sum : Int} (I : Inv b) (B : Bound K b) (hK : K ≤ 400) (hd : b.down = false) (h0 : 0 ≤ n) (h1 : n < b.auths.length) (he : Au.mvErr (b.auth n) mv sum = 0) (hf : ¬ (mv = 1 ∧ (b.card (b.auth n).card).m - (b.card (b.auth n).card).h < sum))
  (hk : ∀ i, (b.snd i).kept.length < 40) (hs : ∀ i, (b.snd i).sent < 1000000) (ht : b.today.length < 100) : doB b (dMove mv n sum) = (moveAll b (dMove mv n sum), 0, 0) := by
 have q1 : ¬ ((dMove mv n sum).n < 0 ∨ (b.auths.length : Int) ≤ (dMove mv n sum).n) := by show ¬ (n < 0 ∨ (b.auths.length : Int) ≤ n); omega
 have N := nums_of (d := dMove mv n sum) I B hK q1 he
 obtain ⟨g1, g2, -, -⟩ := go_in I B hK N
 have may := N.may
 have n1 : 1 ≤ sum := may.2.2.2.2.1
 have n2 : sum ≤ 1000000 := may.2.2.2.2.2.1
 have hfew := I.held.few
 have hp : ∀ (i : Bool) (k : Int), 1 ≤ k → k ≤ 3 → (Po.putS (b.snd i) ⟨0, k, n, sum⟩).2 = 0 := fun i k a1 a2 => put_ok (I.sent.right i) (hk i) (hs i) ⟨a1, a2⟩ ⟨h0, by show n < 30; omega⟩ ⟨n1, n2⟩
 have g3 : (sendBy b.snd (dMove mv n sum).mv (dMove mv n sum).n (dMove mv n sum).sum).2 = 0 := by
  unfold sendBy dMove
  dsimp only
  repeat' split
  ·exact hp _ _ (by decide) (by decide)
  ·exact hp _ _ (by decide) (by decide)
  ·exact hp _ _ (by decide) (by decide)
  ·rfl
 have e3 : doB b (dMove mv n sum) = two (moveD b (dMove mv n sum)) := by
  unfold doB
  rw [if_neg (by show ¬ ((3 : Int) = 1); decide), if_neg (by show ¬ ((3 : Int) = 2); decide), if_pos (show (dMove mv n sum).kind = 3 from rfl)]
 rw [e3]
 unfold moveD two
 have he' : ¬ (Au.mvErr (b.auth (dMove mv n sum).n) (dMove mv n sum).mv (dMove mv n sum).sum ≠ 0) := fun h => h he
 have hf' : ¬ ((dMove mv n sum).mv = 1 ∧ (b.card (b.auth (dMove mv n sum).n).card).m - (b.card (b.auth (dMove mv n sum).n).card).h < (dMove mv n sum).sum) := hf
 rw [if_neg (by rw [hd]; decide), if_neg q1, if_neg he', if_neg hf', if_neg (fun h => h g1), if_neg (fun h => h g2), if_neg (fun h => h g3), if_neg (by omega)]
theorem loads_no {b : Bank} {d : Dd} (h : d.kind ≠ 1) (k : Nat) : loads b d k = 0 := by unfold loads; rw [if_neg (fun x => h x.1)]
theorem pays_no {b : Bank} {d : Dd} (h : d.kind ≠ 11) (k : Nat) : paysOut b d k = 0 := by unfold paysOut; rw [if_neg (fun x => h x.1)]
theorem out_no {b : Bank} {d : Dd} (h : d.kind ≠ 1) (h2 : d.kind ≠ 11) : outD b d = 0 := by unfold outD; simp only [if_neg h, if_neg h2, ite_self]
theorem put_sizes {s : Po.Se} {t : Po.Tr} (h : (Po.putS s t).2 = 0) : (Po.putS s t).1.kept.length = s.kept.length + 1 ∧ (Po.putS s t).1.sent = s.sent + 1 := by
 rw [(put_zero h).1]; simp [Po.outS]
theorem send_sizes {sd : Bool → Po.Se} {k a n : Int} (h : (sendBy sd k a n).2 = 0) (i : Bool) : ((sendBy sd k a n).1 i).kept.length ≤ (sd i).kept.length + sends k ∧ ((sendBy sd k a n).1 i).sent ≤ (sd i).sent + 1 := by
 have key : ∀ (j : Bool) (t : Po.Tr), (Po.putS (sd j) t).2 = 0 → (upd sd j (Po.putS (sd j) t).1 i).kept.length ≤ (sd i).kept.length + 1 ∧ (upd sd j (Po.putS (sd j) t).1 i).sent ≤ (sd i).sent + 1 := by
  intro j t h
  have := put_sizes h
  unfold upd
  split
  ·rename_i e; subst e; omega
  ·omega
 unfold sendBy at h ⊢
 by_cases q1 : k = 2 ∨ k = 3
 ·rw [if_pos q1] at h ⊢; unfold sends; rw [if_pos (by omega)]; exact key _ _ h
 rw [if_neg q1] at h ⊢
 by_cases q2 : k = 5
 ·rw [if_pos q2] at h ⊢; unfold sends; rw [if_pos (by omega)]; exact key _ _ h
 rw [if_neg q2] at h ⊢
 by_cases q3 : k = 7
 ·rw [if_pos q3] at h ⊢; unfold sends; rw [if_pos (by omega)]; exact key _ _ h
 rw [if_neg q3]
 dsimp only
 omega
theorem Got.step {b : Bank} {K M : Nat} {T c s has : Int} {a : Au.Au} (G : Got b K M T c s has a) (hM : M ≤ 20) (hK : K ≤ 90) {mv n : Int} (he : Au.mvErr a mv n = 0) (h1 : mv ≠ 1) : doB b (dMove mv 0 n) = (moveAll b (dMove mv 0 n), 0, 0) ∧ Got (doB b (dMove mv 0 n)).1 (K + 1) (M + sends mv) T c s has (Au.step a mv n) := by
 have hau : b.auth 0 = a := by unfold Bank.auth; rw [G.auths]; rfl
 have hc01 := G.c01
 have hs01 := G.s01
 have e := move_done (mv := mv) (n := 0) (sum := n) G.inv G.bound (by omega) G.down (by decide) (by rw [G.auths]; simp) (by rw [hau]; exact he) (fun h => h1 h.1) (fun i => by have := G.kept i; omega) (fun i => by have := G.sent i; omega) (by have := G.today; omega)
 refine ⟨e, ?_⟩
 have I2 := do_inv (d := dMove mv 0 n) G.inv
 have B2 := do_bound (d := dMove mv 0 n) G.inv G.bound
 have A2 := do_accts (d := dMove mv 0 n) G.inv
 have c2 := do_cbal (d := dMove mv 0 n) G.inv c.toNat (by rw [G.cards]; omega)
 have d2 := fun k => do_bal (d := dMove mv 0 n) G.inv k
 rw [loads_no (by show (3 : Int) ≠ 1; decide)] at c2
 have A2o := A2.out
 rw [out_no (by show (3 : Int) ≠ 1; decide) (by show (3 : Int) ≠ 11; decide)] at A2o
 have may := Au.mvErr_zero.1 he
 have n1 : 1 ≤ n := may.2.2.2.2.1
 have n2 : n ≤ 1000000 := may.2.2.2.2.2.1
 have hsend : (sendBy b.snd mv 0 n).2 = 0 := by
  have hp : ∀ (i : Bool) (k : Int), 1 ≤ k → k ≤ 3 → (Po.putS (b.snd i) ⟨0, k, 0, n⟩).2 = 0 := fun i k a1 a2 => put_ok (G.inv.sent.right i) (by have := G.kept i; omega) (by have := G.sent i; omega) ⟨a1, a2⟩ ⟨by show (0 : Int) ≤ 0; decide, by show (0 : Int) < 30; decide⟩ ⟨n1, n2⟩
  unfold sendBy
  repeat' split
  ·exact hp _ _ (by decide) (by decide)
  ·exact hp _ _ (by decide) (by decide)
  ·exact hp _ _ (by decide) (by decide)
  ·rfl
 obtain ⟨-, -, t3, t4, -⟩ := step_right may
 have cb := G.cb
 have out := G.out
 refine ⟨I2, B2, ?_, by rw [e]; exact G.time, ?_, by rw [A2.cards, G.cards], by rw [A2.due, G.due], by omega, fun k hk hn => ?_, fun k => ?_, by omega, fun i => ?_, fun i => ?_, fun i => ?_, ?_, by rw [t3, G.card], by rw [t4, G.shop], hc01, hs01⟩
 ·rw [e]; exact G.down
 ·rw [e]
  show b.auths.set 0 (Au.step (b.auth 0) mv n) = _
  rw [hau, G.auths]; rfl
 ·rw [do_cbal (d := dMove mv 0 n) G.inv k (by rw [G.cards]; exact hk), loads_no (by show (3 : Int) ≠ 1; decide), G.ob k hk hn]; rfl
 ·rw [d2, pays_no (by show (3 : Int) ≠ 11; decide), G.db]; rfl
 ·rw [e]; exact G.way i
 ·rw [e]
  show ((sendBy b.snd mv 0 n).1 i).kept.length ≤ M + sends mv
  have := (send_sizes hsend i).1
  have := G.kept i
  omega
 ·rw [e]
  show ((sendBy b.snd mv 0 n).1 i).sent ≤ ((K + 1 : Nat) : Int)
  have := (send_sizes hsend i).2
  have := G.sent i
  omega
 ·rw [e]
  show (b.today ++ [_]).length ≤ K + 1
  have := G.today
  rw [List.length_append, List.length_singleton]; omega
open Go.RowKit Go.Proofs.YtofcnebekmjdoaaGreatDoor.Gn Go.Maps
theorem fo_again {w : World} {g : Nat} (h : w.heap[g]? = some (fo (0, 0))) (i : Nat) (hi : i = 0 ∨ i = 1) : ∀ k : Nat, (w.setCell ⟨g, i, none⟩ (.int .i64 0)).heap[k]? = w.heap[k]? := by
 intro k
 by_cases e : k = g
 ·subst e
  unfold fo at h
  rw [heap_setCell_same _ _ _ _ _ _ h, h]
  rcases hi with rfl | rfl <;> rfl
 ·exact heap_setCell_other _ _ _ _ (by simpa using e)
theorem got_again (w : World) (zs : Array Value) (hz : zs.size = 19) (b : Bank) (v : Vs) (g : Nat) (hg : w.heap[g]? = some (fo (0, 0))) :
  (w.alloc (.cells zs 43)).there w.heap.size 0 (cellsK b v).size ∧
  ((w.alloc (.cells zs 43)).setCells w.heap.size 0 (cellsK b v).toList).heap[g]? = some (fo (0, 0)) ∧
  ((((w.alloc (.cells zs 43)).setCells w.heap.size 0 (cellsK b v).toList).setCell ⟨g, 0, none⟩ (.int .i64 0)).setCell ⟨g, 1, none⟩ (.int .i64 0)).heap[w.heap.size]? = some (bko b v) ∧
  ((((w.alloc (.cells zs 43)).setCells w.heap.size 0 (cellsK b v).toList).setCell ⟨g, 0, none⟩ (.int .i64 0)).setCell ⟨g, 1, none⟩ (.int .i64 0)).heap[g]? = some (fo (0, 0)) ∧
  Below w.heap.size w ((((w.alloc (.cells zs 43)).setCells w.heap.size 0 (cellsK b v).toList).setCell ⟨g, 0, none⟩ (.int .i64 0)).setCell ⟨g, 1, none⟩ (.int .i64 0)) := by
 have e1 := below_alloc w (.cells zs 43)
 have h0 : (w.alloc (.cells zs 43)).heap[w.heap.size]? = some (.cells zs 43) := heap_alloc_at _ _ _ rfl
 have hlt := lt_of_block hg
 refine ⟨there_blk h0 (by rw [hz]; exact Nat.le_refl 19), ?_⟩
 rw [putAll_cells]
 have g0 : (putAll (w.alloc (.cells zs 43)) w.heap.size 0 (cellsK b v).toList).heap[w.heap.size]? = some (bko b v) := by
  have := putAll_same (cellsK b v).toList (w.alloc (.cells zs 43)) w.heap.size [] zs.toList [] 43 (by simp [hz]; rfl) (by rw [h0]; simp)
  refine Eq.trans this ?_
  unfold bko
  simp
 have g1 := (putAll_other (w.alloc (.cells zs 43)) w.heap.size 0 g (cellsK b v).toList (by omega)).trans ((e1.block _ hlt).trans hg)
 have hbY := below_putAll e1 w.heap.size 0 (cellsK b v).toList (Nat.le_refl _)
 generalize putAll (w.alloc (.cells zs 43)) w.heap.size 0 (cellsK b v).toList = Y at *
 have s1 := fo_again g1 0 (Or.inl rfl)
 have g2 := (s1 g).trans g1
 have s2 := fo_again g2 1 (Or.inr rfl)
 refine ⟨g1, (s2 _).trans ((s1 _).trans g0), (s2 _).trans g2, ?_⟩
 exact ⟨hbY.os, hbY.tape, hbY.output, by simpa using hbY.size, fun k hk => (s2 k).trans ((s1 k).trans (hbY.block k hk))⟩
theorem got_late {X w2 : World} {zs : Array Value} (hz : zs.size = 19) {b : Bank} {v : Vs} {cs : List CV} {ds : List DV} {z g : Nat} (hb : Below X.heap.size X w2) (hX : X.heap[z]? = some (.cells zs 43)) (hz0 : z ≠ 0) (SH : Shown w2 (fl X.heap.size) b v cs ds) (hg : X.heap[g]? = some (fo (0, 0))) (hgz : g ≠ z) :
  w2.there z 0 (cellsK b v).size ∧ (w2.setCells z 0 (cellsK b v).toList).heap[g]? = some (fo (0, 0)) ∧
  (((w2.setCells z 0 (cellsK b v).toList).setCell ⟨g, 0, none⟩ (.int .i64 0)).setCell ⟨g, 1, none⟩ (.int .i64 0)).heap[z]? = some (bko b v) ∧
  (((w2.setCells z 0 (cellsK b v).toList).setCell ⟨g, 0, none⟩ (.int .i64 0)).setCell ⟨g, 1, none⟩ (.int .i64 0)).heap[g]? = some (fo (0, 0)) ∧
  Shows (((w2.setCells z 0 (cellsK b v).toList).setCell ⟨g, 0, none⟩ (.int .i64 0)).setCell ⟨g, 1, none⟩ (.int .i64 0)) b v cs ds ∧
  (∀ (base : Nat) (W : World), Below base W w2 → base ≤ z → Below base W (w2.setCells z 0 (cellsK b v).toList)) ∧
  (∀ (base : Nat) (W : World), Below base W w2 → base ≤ z → Below base W (((w2.setCells z 0 (cellsK b v).toList).setCell ⟨g, 0, none⟩ (.int .i64 0)).setCell ⟨g, 1, none⟩ (.int .i64 0))) := by
 have zX := lt_of_block hX
 have h0 := (hb.block _ zX).trans hX
 have g0 := (hb.block _ (lt_of_block hg)).trans hg
 refine ⟨there_blk h0 (by rw [hz]; exact Nat.le_refl 19), ?_⟩
 have hlen : (w2.setCells z 0 (cellsK b v).toList) = putAll w2 z 0 (cellsK b v).toList := putAll_cells _ _ _ _
 rw [hlen]
 have k0 : (putAll w2 z 0 (cellsK b v).toList).heap[z]? = some (bko b v) := by
  have := putAll_same (cellsK b v).toList w2 z [] zs.toList [] 43 (by simp [hz]; rfl) (by rw [h0]; simp)
  refine Eq.trans this ?_
  unfold bko
  simp
 have k1 := (putAll_other w2 z 0 g (cellsK b v).toList hgz).trans g0
 have hS : Shown (putAll w2 z 0 (cellsK b v).toList) (fl X.heap.size) b v cs ds := SH.go (below_putAll (Below.refl 0 w2) z 0 (cellsK b v).toList (Nat.zero_le _)).size (fun _ _ => rfl) fun k _ hk => putAll_other w2 z 0 k (cellsK b v).toList (fun e => by
  subst e
  unfold fl at hk
  rw [if_neg (by omega)] at hk
  exact absurd hk (by decide))
 have hbl : ∀ (base : Nat) (W : World), Below base W w2 → base ≤ z → Below base W (putAll w2 z 0 (cellsK b v).toList) := fun base W h hle => below_putAll h z 0 (cellsK b v).toList hle
 generalize putAll w2 z 0 (cellsK b v).toList = Y at *
 have s1 := fo_again k1 0 (Or.inl rfl)
 have k2 := (s1 g).trans k1
 have s2 := fo_again k2 1 (Or.inr rfl)
 refine ⟨k1, (s2 _).trans ((s1 _).trans k0), (s2 _).trans k2, ?_, hbl, fun base W h hle => ?_⟩
 ·exact (hS.go (by simp) (fun _ _ => rfl) fun k _ _ => (s2 k).trans (s1 k)).shows
 ·have hY := hbl base W h hle
  exact ⟨hY.os, hY.tape, hY.output, by simpa using hY.size, fun k hk => (s2 k).trans ((s1 k).trans (hY.block k hk))⟩
def given (count : Int) (i : Nat) : Nat := min i count.toNat
open Go.ChangeShapes Go.WideShapes Go.ChangeAt Go.RowKit Go.Proofs.YtofcnebekmjdoaaGreatDoor.Gn
theorem open_dosc {H : Type} {enc : TypeId × Value → H} {W : World} {base : Nat} {spare : Nat → Bool} {held : Bool} {a : Option Addr} {len cap : Nat} {d : DataW H} {p : List MemPlace}
  (h : DataW.Trod enc Tryz.prog W base spare held 25 (.slice a len cap) d p) : ∃ l : List Dd, len = l.length ∧ Gn.Lies kDd W a cap l ∧ ((∀ d ∈ l, FitD d) ∧ l.length ≤ cap) := by
 have hcap : len ≤ cap := by
  obtain ⟨fuel, hf⟩ := h
  rcases Go.Deep.open_slice Tryz.underlying25 hf with ⟨hcs, -⟩ | ⟨ad, l, c, m, n, D, Pl, hcs, -, hl, -⟩
  ·cases hcs; exact Nat.le_refl _
  ·cases hcs; exact hl
 obtain ⟨l, h1, h2, h3⟩ := open_dos h
 exact ⟨l, h1, h2, h3, by omega⟩
def dayD (n : Int) : Dd := if 0 < n then dMove 2 0 n else dMove 5 0 (-(max n (-1000000)))
theorem Got.more {b : Bank} {K M K2 M2 : Nat} {T c s has : Int} {a : Au.Au} (G : Got b K M T c s has a) (hK : K ≤ K2) (hM : M ≤ M2) : Got b K2 M2 T c s has a :=
 ⟨G.inv, G.bound.mono hK, G.down, G.time, G.auths, G.cards, G.due, G.cb, G.ob, G.db, G.out, G.way, fun i => Nat.le_trans (G.kept i) hM, fun i => by have := G.sent i; omega, Nat.le_trans G.today hK, G.card, G.shop, G.c01, G.s01⟩
theorem move_no {b : Bank} {mv n : Int} (hd : b.down = false) (ha : b.auths.length = 1) (he : Au.mvErr (b.auth 0) mv n ≠ 0) : (doB b (dMove mv 0 n)).1 = b := by
 refine doB_refused b _ ?_
 show (moveD b (dMove mv 0 n)).2 ≠ 0
 unfold moveD
 rw [if_neg (by rw [hd]; simp), if_neg (by show ¬ ((0 : Int) < 0 ∨ _ ≤ (0 : Int)); rw [ha]; omega), if_pos (show Au.mvErr (b.auth (dMove mv 0 n).n) (dMove mv 0 n).mv (dMove mv 0 n).sum ≠ 0 from he)]
 exact he
structure Dt (b : Bank) (K M : Nat) (has : Int) (a : Au.Au) : Prop where
 got : Got b K M 0 0 1 has a
 one : Dy.net 1 b.today = a.cap - a.ref
 zero : Dy.net 0 b.today = 0
 days : b.days = []
theorem Dt.step {b : Bank} {K M : Nat} {has : Int} {a : Au.Au} (D : Dt b K M has a) (hM : M ≤ 20) (hK : K ≤ 90) {mv : Int} (n : Int) (hmv : mv = 2 ∨ mv = 5) : ∃ a', Dt (doB b (dMove mv 0 n)).1 (K + 1) (M + 1) has a' := by
 have hau : b.auth 0 = a := by unfold Bank.auth; rw [D.got.auths]; rfl
 by_cases he : Au.mvErr a mv n = 0
 ·obtain ⟨e, G⟩ := D.got.step hM hK he (by omega)
  have ht : (doB b (dMove mv 0 n)).1.today = b.today ++ [⟨1, 0, mv, n⟩] := by
   rw [e]
   show b.today ++ [⟨(b.auth 0).shop, 0, mv, n⟩] = _
   rw [hau, D.got.shop]
  refine ⟨Au.step a mv n, G.more (Nat.le_refl _) (by unfold sends; split <;> omega), ?_, ?_, by rw [e]; exact D.days⟩
  ·have h1 := D.one
   unfold Dy.net at h1 ⊢
   rw [ht, Dy.sumBy_append, h1]
   rcases hmv with rfl | rfl
   ·simp [Dy.sumBy, Dy.netF, Dy.sgn, Au.step]; omega
   ·simp [Dy.sumBy, Dy.netF, Dy.sgn, Au.step]; omega
  ·have h1 := D.zero
   unfold Dy.net at h1 ⊢
   rw [ht, Dy.sumBy_append, h1]
   simp [Dy.sumBy, Dy.netF]
 ·rw [move_no D.got.down (by rw [D.got.auths]; rfl) (by rw [hau]; exact he)]
  exact ⟨a, D.got.more (by omega) (by omega), D.one, D.zero, D.days⟩
theorem Dt.all {has : Int} (l : List Int) : ∀ {b : Bank} {K M : Nat} {a : Au.Au}, Dt b K M has a → K + l.length ≤ 90 → M + l.length ≤ 20 → ∃ a', Dt (run b (l.map dayD)) (K + l.length) (M + l.length) has a' := by
 induction l with
 | nil => intro b K M a D _ _; exact ⟨a, D⟩
 | cons n r ih =>
  intro b K M a D h1 h2
  rw [List.length_cons] at h1 h2
  have h3 : ∃ a', Dt (doB b (dayD n)).1 (K + 1) (M + 1) has a' := by
   unfold dayD
   split
   ·exact D.step (by omega) (by omega) _ (Or.inl rfl)
   ·exact D.step (by omega) (by omega) _ (Or.inr rfl)
  obtain ⟨a', D'⟩ := h3
  obtain ⟨a2, D2⟩ := ih D' (by omega) (by omega)
  refine ⟨a2, ?_⟩
  rw [List.map_cons, run_cons, List.length_cons, show K + (r.length + 1) = K + 1 + r.length by omega, show M + (r.length + 1) = M + 1 + r.length by omega]
  exact D2
open Go.RowKit Go.Proofs.YtofcnebekmjdoaaGreatDoor.Gn Go.Maps
theorem playR_ok {ps : List Pa} {shops cap : Int} {l : List Dd} (h : (playR ps shops cap l).2.2.1 = 0) : (setErr ps shops cap).1 = 0 ∧ l.length ≤ 150 ∧ playR ps shops cap l = ((playL (startB ps shops.toNat cap) l).1, (playL (startB ps shops.toNat cap) l).2.map (·.2), (0, 0)) := by
 unfold playR at h ⊢
 by_cases h1 : (setErr ps shops cap).1 ≠ 0
 ·rw [if_pos h1] at h; exact absurd h h1
 rw [if_neg h1] at h ⊢
 by_cases h2 : 150 < l.length
 ·rw [if_pos h2] at h; cases h
 rw [if_neg h2]
 exact ⟨by simpa using h1, by omega, rfl⟩
open Go.RowKit Go.Proofs.YtofcnebekmjdoaaGreatDoor.Gn Go.Maps
structure Bw (w Y : World) (g : Nat) (b : Bank) (v : Vs) (cs : List CV) (ds : List DV) : Prop where
 box : Y.heap[g]? = some (bko b v)
 sh : Shows Y b v cs ds
 bel : Below w.heap.size w Y
theorem Bw.below {w Y Y' : World} {g : Nat} {b : Bank} {v : Vs} {cs : List CV} {ds : List DV} (h : Bw w Y g b v cs ds) (hb : Below Y.heap.size Y Y') : Bw w Y' g b v cs ds :=
 ⟨(hb.block _ (lt_of_block h.box)).trans h.box, h.sh.below hb, h.bel.trans (hb.mono h.bel.size)⟩
end Go.Proofs.YtofcnebekmjdoaaGreatDoor.Bn
