import Derived.Test.YtofcnebekmjdoaaGreatDoorQbx
set_option maxHeartbeats 4000000
set_option maxRecDepth 100000
namespace Go.Proofs.YtofcnebekmjdoaaGreatDoor.Bn
def Gy (b : Aa) (acc : Int) : Prop := acc = 0 ∨ acc = 1 ∨ acc = 2 ∨ (10 ≤ acc ∧ acc < 10 + b.cards.length) ∨ (50 ≤ acc ∧ acc < 50 + b.due.length)
def outD (b : Aa) (d : Dd) : Int := if (By b d).2.1 = 0 then (if d.kind = 1 then -d.sum else if d.kind = 11 then b.dueOf d.n else 0) else 0
structure Accts (b x : Aa) (o : Int) : Prop where
 out : Bk.getE x.book 0 = Bk.getE b.book 0 + o
 none : ∀ acc, ¬ Gy b acc → Bk.getE x.book acc = Bk.getE b.book acc
 cards : x.cards.length = b.cards.length
 due : x.due.length = b.due.length
theorem Cu {b x : Aa} (h1 : x.book = b.book) (h2 : x.cards.length = b.cards.length) (h3 : x.due.length = b.due.length) : Accts b x 0 := ⟨by rw [h1]; omega, fun acc _ => by rw [h1], h2, h3⟩
theorem accts_move {b x : Aa} {src dst n : Int} (h : (Aj b.book src dst n).2 = 0) (h1 : x.book = (Aj b.book src dst n).1) (hs : Gy b src) (hd : Gy b dst) (h2 : x.cards.length = b.cards.length) (h3 : x.due.length = b.due.length) :
  Accts b x ((if src = 0 then -n else 0) + (if dst = 0 then n else 0)) := by
 obtain ⟨-, m2⟩ := Ea h
 refine ⟨by rw [h1, m2]; omega, fun acc ha => ?_, h2, h3⟩
 rw [h1, m2, if_neg (show ¬ src = acc from fun e => ha (e ▸ hs)), if_neg (show ¬ dst = acc from fun e => ha (e ▸ hd))]; omega
theorem accts_in {b x : Aa} {src dst n : Int} (h : (Aj b.book src dst n).2 = 0) (h1 : x.book = (Aj b.book src dst n).1) (hs : Gy b src) (hd : Gy b dst) (s0 : src ≠ 0) (d0 : dst ≠ 0) (h2 : x.cards.length = b.cards.length) (h3 : x.due.length = b.due.length) : Accts b x 0 := by
 have := accts_move h h1 hs hd h2 h3
 rwa [if_neg s0, if_neg d0] at this
theorem load_accts {b : Aa} {d : Dd} (h : (Ff b d).2 = 0) : Accts b (Ff b d).1 (-d.sum) := by
 unfold Ff at h ⊢
 split at h
 ·cases h
 rename_i h1
 rw [if_neg h1]
 split at h
 ·cases h
 rename_i h2
 rw [if_neg h2]
 split at h
 ·rename_i h3; exact absurd h h3
 rename_i h3
 rw [if_neg h3]
 split at h
 ·rename_i h4; exact absurd h h4
 rename_i h4
 rw [if_neg h4]
 have := accts_move (x := { b with cards := b.cards.set d.n.toNat (Al (b.card d.n) 0 d.sum).1, book := (Aj b.book 0 (10 + d.n) d.sum).1 }) (Decidable.not_not.1 h4) rfl (Or.inl rfl) (by unfold Gy; omega) (by simp) rfl
 rwa [if_pos rfl, if_neg (by omega), Int.add_zero] at this
theorem pay_accts {b : Aa} {d : Dd} (h : (payB b d).2 = 0) : Accts b (payB b d).1 (b.dueOf d.n) := by
 unfold payB at h ⊢
 split at h
 ·cases h
 rename_i h1
 rw [if_neg h1]
 split at h
 ·cases h
 rename_i h2
 rw [if_neg h2]
 split at h
 ·rename_i h3; exact absurd h h3
 rename_i h3
 rw [if_neg h3]
 have := accts_move (x := { b with due := b.due.set d.n.toNat 0, book := (Aj b.book (50 + d.n) 0 (b.dueOf d.n)).1 }) (Decidable.not_not.1 h3) rfl (by unfold Gy; omega) (Or.inl rfl) rfl (by simp)
 rwa [if_neg (by omega), if_pos rfl, Int.zero_add] at this
theorem move_accts {b : Aa} {d : Dd} (I : Cj b) (h : (Eu b d).2 = 0) : Accts b (Eu b d).1 0 := by
 unfold Eu at h ⊢
 split at h
 ·cases h
 rename_i q1
 rw [if_neg q1]
 split at h
 ·cases h
 rename_i q2
 rw [if_neg q2]
 split at h
 ·rename_i q; exact absurd h q
 rename_i q3
 rw [if_neg q3]
 split at h
 ·cases h
 rename_i q4
 rw [if_neg q4]
 split at h
 ·rename_i q; exact absurd h q
 rename_i q5
 rw [if_neg q5]
 split at h
 ·rename_i q; exact absurd h q
 rename_i q6
 rw [if_neg q6]
 split at h
 ·rename_i q; exact absurd h q
 rename_i q7
 rw [if_neg q7]
 split at h
 ·cases h
 rename_i q8
 rw [if_neg q8]
 replace q6 : (Dg b.book (b.auth d.n) d.mv d.sum).2 = 0 := Decidable.not_not.1 q6
 obtain ⟨r1, -, r3, r4⟩ := I.held.auth (k := d.n) (by omega) (by omega)
 have hc0 : 0 ≤ (b.auth d.n).card := r1.2.2.2.2.1.1
 have hs0 : 0 ≤ (b.auth d.n).shop := r1.2.2.2.2.2.1.1
 have e1 : (Bt b d).book = (Dg b.book (b.auth d.n) d.mv d.sum).1 := rfl
 have e2 : (Bt b d).cards.length = b.cards.length := by simp [Bt]
 have e3 : (Bt b d).due.length = b.due.length := by simp [Bt]
 have nc : Gy b (10 + (b.auth d.n).card) := by unfold Gy; omega
 have ns : Gy b (50 + (b.auth d.n).shop) := by unfold Gy; omega
 have n1 : Gy b 1 := Or.inr (Or.inl rfl)
 have n2 : Gy b 2 := Or.inr (Or.inr (Or.inl rfl))
 unfold Dg at q6 e1
 split at q6
 ·rename_i k; rw [if_pos k] at e1
  exact accts_in q6 e1 nc n1 (by omega) (by omega) e2 e3
 rename_i k; rw [if_neg k] at e1
 split at q6
 ·rename_i k; rw [if_pos k] at e1
  exact accts_in q6 e1 ns n1 (by omega) (by omega) e2 e3
 rename_i k; rw [if_neg k] at e1
 split at q6
 ·rename_i k; rw [if_pos k] at e1
  exact accts_in q6 e1 n2 nc (by omega) (by omega) e2 e3
 rename_i k; rw [if_neg k] at e1
 split at q6
 ·rename_i k; rw [if_pos k] at e1
  exact accts_in q6 e1 nc n2 (by omega) (by omega) e2 e3
 rename_i k; rw [if_neg k] at e1
 exact Cu e1 e2 e3
theorem arrive_accts {b : Aa} {d : Dd} {lost : Bool} (I : Cj b) (h : (Ao b d lost).2 = 0) : Accts b (Ao b d lost).1 0 := by
 unfold Ao at h ⊢
 by_cases h1 : d.n < 0 ∨ 1 < d.n
 ·rw [if_pos h1] at h; cases h
 rw [if_neg h1] at h ⊢
 generalize B3 d.n = i at *
 cases hw : b.way i with
 | nil => rw [hw] at h; cases h
 | cons p r =>
  rw [hw] at h
  dsimp only at h ⊢
  cases lost with
  | true => rw [if_pos rfl]; exact Cu rfl rfl rfl
  | false =>
   rw [if_neg (by simp)] at h ⊢
   have hp := I.sent.ways i p (by rw [hw]; exact List.mem_cons_self)
   unfold Co at h ⊢
   by_cases h2 : 0 ≤ p.seen
   ·rw [if_pos h2] at h ⊢
    split at h
    ·rename_i h3; exact absurd h h3
    rename_i h3
    rw [if_neg h3]
    exact Cu rfl rfl rfl
   ·rw [if_neg h2] at h ⊢
    by_cases h3 : p.t.n ≠ b.seen i + 1 ∨ 1000000 ≤ b.seen i
    ·rw [if_pos h3]; exact Cu rfl rfl rfl
    ·rw [if_neg h3] at h ⊢
     have ht : p.t ∈ (b.snd (!i)).kept := by
      rcases hp with ⟨-, g1 | g1⟩ | ⟨g1, -⟩
      ·omega
      ·exact g1
      ·omega
     have hin := kept_in I (!i) p.t ht
     obtain ⟨r1, -, r3, r4⟩ := I.held.auth hin.1 hin.2
     have hc0 : 0 ≤ (b.auth p.t.a).card := r1.2.2.2.2.1.1
     have hs0 : 0 ≤ (b.auth p.t.a).shop := r1.2.2.2.2.2.1.1
     have nc : Gy b (10 + (b.auth p.t.a).card) := by unfold Gy; omega
     have ns : Gy b (50 + (b.auth p.t.a).shop) := by unfold Gy; omega
     have n1 : Gy b 1 := Or.inr (Or.inl rfl)
     have n2 : Gy b 2 := Or.inr (Or.inr (Or.inl rfl))
     unfold Fv at h ⊢
     by_cases k1 : p.t.k = 1
     ·rw [if_pos k1] at h ⊢
      split at h
      ·rename_i q; exact absurd h q
      rename_i q
      rw [if_neg q]
      exact accts_in (Decidable.not_not.1 q) rfl n1 ns (by omega) (by omega) rfl (by simp)
     rw [if_neg k1] at h ⊢
     by_cases k2 : p.t.k = 2
     ·rw [if_pos k2] at h ⊢
      split at h
      ·rename_i q; exact absurd h q
      rename_i q
      rw [if_neg q]
      split at h
      ·rename_i q2; exact absurd h q2
      rename_i q2
      rw [if_neg q2]
      exact accts_in (Decidable.not_not.1 q2) rfl n1 nc (by omega) (by omega) (by simp) rfl
     rw [if_neg k2] at h ⊢
     by_cases k3 : p.t.k = 3
     ·rw [if_pos k3] at h ⊢
      split at h
      ·rename_i q; exact absurd h q
      rename_i q
      rw [if_neg q]
      exact accts_in (Decidable.not_not.1 q) rfl ns n2 (by omega) (by omega) rfl (by simp)
     rw [if_neg k3]
     exact Cu rfl rfl rfl
theorem fold_len {α : Type} (f : List Ca → α → List Ca) (hf : ∀ cs a, (f cs a).length = cs.length) (L : List α) : ∀ cs, (L.foldl f cs).length = cs.length := by
 induction L with
 | nil => intro cs; rfl
 | cons x r ih => intro cs; rw [List.foldl_cons, ih, hf]
theorem shut_cards (b : Aa) : (shutB b).cards.length = b.cards.length := fold_len _ (fun cs a => by simp [Fh]) _ _
theorem do_accts {b : Aa} {d : Dd} (I : Cj b) : Accts b (By b d).1 (outD b d) := by
 by_cases h : (By b d).2.1 = 0
 case neg =>
  have : outD b d = 0 := by unfold outD; rw [if_neg h]
  rw [Db b d h, this]; exact Cu rfl rfl rfl
 have ho : outD b d = (if d.kind = 1 then -d.sum else if d.kind = 11 then b.dueOf d.n else 0) := by unfold outD; rw [if_pos h]
 rw [ho]
 clear ho
 unfold By at h ⊢
 by_cases k1 : d.kind = 1
 ·rw [if_pos k1] at h ⊢
  rw [if_pos k1]
  exact load_accts h
 rw [if_neg k1] at h ⊢
 rw [if_neg k1]
 by_cases k11 : d.kind = 11
 ·rw [if_neg (by omega), if_neg (by omega), if_neg (by omega), if_neg (by omega), if_neg (by omega), if_neg (by omega), if_neg (by omega), if_neg (by omega), if_neg (by omega), if_pos k11] at h ⊢
  rw [if_pos k11]
  exact pay_accts h
 have h0 : (if d.kind = 11 then b.dueOf d.n else (0 : Int)) = 0 := if_neg k11
 rw [h0]
 clear h0
 split at h
 ·rename_i e; rw [if_pos e]
  unfold askB Dx Hf
  repeat' split
  all_goals exact Cu rfl (by simp) rfl
 rename_i e; rw [if_neg e]
 split at h
 ·rename_i e; rw [if_pos e]; exact move_accts I h
 rename_i e; rw [if_neg e]
 split at h
 ·rename_i e; rw [if_pos e]
  unfold two Fs
  split
  ·exact Cu rfl rfl rfl
  split
  ·exact Cu rfl rfl rfl
  ·exact Cu rfl (shut_cards _) rfl
 rename_i e; rw [if_neg e]
 split at h
 ·rename_i e; rw [if_pos e]
  unfold two Hd
  repeat' split
  all_goals exact Cu rfl rfl rfl
 rename_i e; rw [if_neg e]
 split at h
 ·rename_i e; rw [if_pos e]; exact arrive_accts I h
 rename_i e; rw [if_neg e]
 split at h
 ·rename_i e; rw [if_pos e]; exact arrive_accts I h
 rename_i e; rw [if_neg e]
 split at h
 ·rename_i e; rw [if_pos e]
  unfold two downB
  repeat' split
  all_goals exact Cu rfl rfl rfl
 rename_i e; rw [if_neg e]
 split at h
 ·rename_i e; rw [if_pos e]
  unfold two upB
  split
  ·exact Cu rfl ((shut_cards _).trans (fold_len _ (fun cs a => by simp [Du]) _ _)) rfl
  ·exact Cu rfl rfl rfl
 rename_i e; rw [if_neg e]
 split at h
 ·rename_i e; rw [if_pos e]; exact Cu rfl rfl rfl
 rename_i e; rw [if_neg e, if_neg k11]
 exact Cu rfl rfl rfl
def Moving (d : Dd) : Prop := d.kind = 5 ∨ d.kind = 6 ∨ d.kind = 7
structure Plain (b x : Aa) : Prop where
 auths : x.auths = b.auths
 time : x.time = b.time
 down : x.down = b.down
 stand : x.stand = b.stand
 today : x.today = b.today
 days : x.days = b.days
structure Still (b x : Aa) : Prop where
 plain : Plain b x
 cards : x.cards.length = b.cards.length
 due : x.due.length = b.due.length
 cb : ∀ k, k < b.cards.length → Er k x = Er k b
 db : ∀ k, bal k x = bal k b
 out : Bk.getE x.book 0 = Bk.getE b.book 0
theorem E9 (b : Aa) : Plain b b := ⟨rfl, rfl, rfl, rfl, rfl, rfl⟩
theorem Dw {b : Aa} {c : Prop} [Decidable c] {x y : Aa × Int} (h1 : Plain b x.1) (h2 : Plain b y.1) : Plain b (if c then x else y).1 := by
 split
 ·exact h1
 ·exact h2
theorem arrive_plain (b : Aa) (d : Dd) (lost : Bool) : Plain b (Ao b d lost).1 := by
 unfold Ao
 refine Dw (E9 b) ?_
 split
 ·exact E9 b
 ·refine Dw ⟨rfl, rfl, rfl, rfl, rfl, rfl⟩ ?_
  unfold Co
  refine Dw (Dw (E9 b) ⟨rfl, rfl, rfl, rfl, rfl, rfl⟩) (Dw ⟨rfl, rfl, rfl, rfl, rfl, rfl⟩ ?_)
  unfold Fv
  exact Dw (Dw (E9 b) ⟨rfl, rfl, rfl, rfl, rfl, rfl⟩) (Dw (Dw (E9 b) (Dw (E9 b) ⟨rfl, rfl, rfl, rfl, rfl, rfl⟩)) (Dw (Dw (E9 b) ⟨rfl, rfl, rfl, rfl, rfl, rfl⟩) ⟨rfl, rfl, rfl, rfl, rfl, rfl⟩))
theorem send_plain (b : Aa) (d : Dd) : Plain b (Hd b d).1 := by
 unfold Hd
 exact Dw (E9 b) (Dw (E9 b) ⟨rfl, rfl, rfl, rfl, rfl, rfl⟩)
theorem do_still {b : Aa} {d : Dd} (I : Cj b) (hd : Moving d) : Still b (By b d).1 := by
 have hp : Plain b (By b d).1 := by
  unfold By
  rcases hd with h | h | h
  ·rw [if_neg (by omega), if_neg (by omega), if_neg (by omega), if_neg (by omega), if_pos h]; exact send_plain b d
  ·rw [if_neg (by omega), if_neg (by omega), if_neg (by omega), if_neg (by omega), if_neg (by omega), if_pos h]; exact arrive_plain b d false
  ·rw [if_neg (by omega), if_neg (by omega), if_neg (by omega), if_neg (by omega), if_neg (by omega), if_neg (by omega), if_pos h]; exact arrive_plain b d true
 have A := do_accts (d := d) I
 have h1 : d.kind ≠ 1 := by unfold Moving at hd; omega
 have h11 : d.kind ≠ 11 := by unfold Moving at hd; omega
 refine ⟨hp, A.cards, A.due, fun k hk => ?_, fun k => ?_, ?_⟩
 ·rw [do_cbal I k hk]; unfold loads; rw [if_neg (fun h => h1 h.1)]; omega
 ·rw [do_bal I k]; unfold paysOut; rw [if_neg (fun h => h11 h.1)]; omega
 ·have ho : outD b d = 0 := by
   unfold outD
   simp only [if_neg h1, if_neg h11, ite_self]
  rw [A.out, ho]; omega
theorem Still.trans {a b c : Aa} (h : Still a b) (h2 : Still b c) : Still a c :=
 ⟨⟨h2.plain.auths.trans h.plain.auths, h2.plain.time.trans h.plain.time, h2.plain.down.trans h.plain.down, h2.plain.stand.trans h.plain.stand, h2.plain.today.trans h.plain.today, h2.plain.days.trans h.plain.days⟩, h2.cards.trans h.cards, h2.due.trans h.due,
  fun k hk => (h2.cb k (by rw [h.cards]; exact hk)).trans (h.cb k hk), fun k => (h2.db k).trans (h.db k), h2.out.trans h.out⟩
theorem still_refl (b : Aa) : Still b b := ⟨E9 b, rfl, rfl, fun _ _ => rfl, fun _ => rfl, rfl⟩
theorem run_still (ds : List Dd) : ∀ b : Aa, Cj b → (∀ d ∈ ds, Moving d) → Still b (run b ds) := by
 induction ds with
 | nil => exact fun b _ _ => still_refl b
 | cons d r ih =>
  intro b I h
  rw [Ga]
  exact (do_still I (h d List.mem_cons_self)).trans (ih _ (do_inv I) fun x hx => h x (List.mem_cons_of_mem _ hx))
theorem round_moving (n : Nat) : ∀ d ∈ Dm n, Moving d := by
 intro d hd
 unfold Dm at hd
 simp only [List.mem_append, List.mem_cons, List.mem_replicate] at hd
 rcases hd with ((h | h | h) | ⟨-, h⟩) | ⟨-, h⟩
 ·subst h; exact Or.inl rfl
 ·subst h; exact Or.inl rfl
 ·cases h
 ·subst h; exact Or.inr (Or.inl rfl)
 ·subst h; exact Or.inr (Or.inl rfl)
def Bq (n : Nat) : List Dd := Dm n ++ Dm n
structure Came (b x : Aa) : Prop where
 still : Still b x
 kept : ∀ i, (x.snd i).kept = []
 way : ∀ i, x.way i = []
 sent : ∀ i, (x.snd i).sent = (b.snd i).sent
theorem come_ok {K n : Nat} {b : Aa} (I : Cj b) (B : B6 K b) (hK : K + 6 * n + 30 ≤ 900000) (hw : ∀ i, b.way i = []) (hk : ∀ i, (b.snd i).kept.length + 1 ≤ n) : Came b (run b (Bq n)) := by
 unfold Bq
 have hst := run_still (Dm n ++ Dm n) b I (fun d hd => by
  rcases List.mem_append.1 hd with h | h <;> exact round_moving n d h)
 rw [run_append] at hst ⊢
 obtain ⟨g1, g2, g3⟩ := round_ok I B (n := n) (by omega) hw hk
 have I2 := run_inv I (Dm n)
 have B2 := run_bound I B (Dm n)
 have hrl : (Dm n).length = 2 * n + 2 := by simp [Dm]; omega
 rw [hrl] at B2
 generalize run b (Dm n) = b2 at *
 obtain ⟨k1, k2, k3⟩ := round_ok I2 B2 (n := n) (by omega) g3 (fun i => by
  rw [g1]
  show (Po.those (b.seen (!i)) (b.snd i).kept).length + 1 ≤ n
  have := Po.those_le (b.seen (!i)) (b.snd i).kept
  have := hk i; omega)
 generalize run b2 (Dm n) = b3 at *
 have hkept : ∀ i, (b3.snd i).kept = [] := fun i => by
  rw [k1]
  show Po.those (b2.seen (!i)) (b2.snd i).kept = []
  have h2 : b2.seen (!i) = (b2.snd i).sent := by
   rw [g2, g1, Fx]
  rw [h2]
  exact List.filter_eq_nil_iff.2 fun t ht => by
   have := (Fe (I2.sent.right i) ht).2.2.2
   simpa using this
 exact ⟨hst, hkept, k3, fun i => by rw [k1, g1]⟩
def Dc (n sum : Int) : Dd := ⟨0, 1, n, 0, 0, sum⟩
def dAsk (n shop sum : Int) : Dd := ⟨0, 2, n, shop, 0, sum⟩
def Bd (mv n sum : Int) : Dd := ⟨0, 3, n, 0, mv, sum⟩
theorem load_done {K : Nat} {b : Aa} {n sum : Int} (I : Cj b) (B : B6 K b) (hK : K ≤ 400) (h0 : 0 ≤ n) (h1 : n < b.cards.length) (hs : 1 ≤ sum ∧ sum ≤ 1000000) (ho : -900000000000 ≤ Bk.getE b.book 0) :
  By b (Dc n sum) = ({ b with cards := b.cards.set n.toNat ⟨(b.card n).m + sum, (b.card n).h, (b.card n).p, (b.card n).u⟩, book := (Aj b.book 0 (10 + n) sum).1 }, 0, 0) := by
 have hc8 := I.held.cards8
 have R := I.held.card h0 h1
 have hm := money_small I B hK n.toNat (by omega)
 have hcd : b.cards.getD n.toNat Ah = b.card n := rfl
 rw [hcd] at hm
 have hsh := shift_in (h := 0) (m := sum) R (by unfold far; omega) (by unfold off; omega)
 have ha := B (10 + n) (by omega)
 have hmv : (Aj b.book 0 (10 + n) sum).2 = 0 := moveB_fits I.books.right (by omega) (by omega) (by omega) (by omega) (by omega) (by omega)
 unfold By Dc two Ff
 simp only [if_true]
 rw [if_neg (by omega), if_neg (by omega), hsh]
 simp only [ne_eq, not_true_eq_false, if_false]
 rw [if_neg (by simpa using hmv), Int.add_zero]
theorem ask_done {b : Aa} {n shop sum : Int} (I : Cj b) (hd : b.down = false) (h0 : 0 ≤ n) (h1 : n < b.cards.length) (s0 : 0 ≤ shop) (s1 : shop < b.due.length) (hs : 1 ≤ sum ∧ sum ≤ 1000000) (hfew : b.auths.length < 30) (hm : (b.card n).h + sum ≤ (b.card n).m) (ha : (Et (b.card n).p (b.card n).u (b.time, sum)).2 = 0) :
  By b (dAsk n shop sum) = ({ b with cards := b.cards.set n.toNat ⟨(b.card n).m, (b.card n).h + sum, (b.card n).p, (Et (b.card n).p (b.card n).u (b.time, sum)).1⟩, auths := b.auths ++ [⟨n, shop, sum, 0, 0, 0, b.time + 100, false⟩] }, 0, (b.auths.length : Int)) := by
 have hc8 := I.held.cards8
 have hd8 := I.held.due8
 have t0 := I.held.time0
 have t1 := I.held.time1
 have R := I.held.card h0 h1
 have hn : Au.newA n shop sum b.time = (⟨n, shop, sum, 0, 0, 0, b.time + 100, false⟩, 0) := by
  unfold Au.newA
  rw [if_pos (by omega)]
 have hal := allowC_ok (c := b.card n) (s := sum) (t := b.time) (Cx.2 R) (by omega) (by omega) ha
 unfold By dAsk
 simp only [if_neg (show ¬ ((2 : Int) = 1) by decide), if_true]
 unfold askB Hf
 simp only [hn, hal, hd]
 rw [if_neg (by omega), if_neg (by decide), if_neg (by decide), if_neg (by omega), if_neg (by decide)]
theorem put_ok {s : Po.Se} {t : Po.Tr} (R : Po.Right s) (h1 : s.kept.length < 40) (h2 : s.sent < 1000000) (hk : 1 ≤ t.k ∧ t.k ≤ 3) (ha : 0 ≤ t.a ∧ t.a < 30) (hs : 1 ≤ t.s ∧ t.s ≤ 1000000) : (Po.putS s t).2 = 0 := by
 have R2 : Po.Right (Po.outS s t) := by
  refine ⟨by simp [Po.outS]; omega, ?_, by simp [Po.outS]; omega, ?_⟩
  ·have := R.lo
   simp [Po.outS]; omega
  ·intro i x hx
   unfold Po.outS at hx ⊢
   dsimp only at hx ⊢
   rw [List.length_append, List.length_singleton]
   by_cases hi : i < s.kept.length
   ·rw [List.getElem?_append_left hi] at hx
    obtain ⟨e1, e2, e3⟩ := R.each i x hx
    exact ⟨e1, e2, by omega⟩
   ·rw [List.getElem?_append_right (by omega)] at hx
    have hi2 : i = s.kept.length := by
     have := (List.getElem?_eq_some_iff.1 hx).1
     simp at this; omega
    subst hi2
    simp at hx
    subst hx
    refine ⟨?_, ?_, ?_⟩
    ·show ¬ Po.noKind t.k
     unfold Po.noKind; omega
    ·show ¬ Po.far t.a t.s
     unfold Po.far; omega
    ·show s.sent + 1 = _
     omega
 rw [Po.putS_ok (Po.wrongS_ok.2 R) (Po.wrongS_ok.2 R2)]
theorem move_done {K : Nat} {b : Aa} {mv n sum : Int} (I : Cj b) (B : B6 K b) (hK : K ≤ 400) (hd : b.down = false) (h0 : 0 ≤ n) (h1 : n < b.auths.length) (he : Au.mvErr (b.auth n) mv sum = 0) (hf : ¬ (mv = 1 ∧ (b.card (b.auth n).card).m - (b.card (b.auth n).card).h < sum))
  (hk : ∀ i, (b.snd i).kept.length < 40) (hs : ∀ i, (b.snd i).sent < 1000000) (ht : b.today.length < 100) : By b (Bd mv n sum) = (Bt b (Bd mv n sum), 0, 0) := by
 have q1 : ¬ ((Bd mv n sum).n < 0 ∨ (b.auths.length : Int) ≤ (Bd mv n sum).n) := by show ¬ (n < 0 ∨ (b.auths.length : Int) ≤ n); omega
 have N := nums_of (d := Bd mv n sum) I B hK q1 he
 obtain ⟨g1, g2, -, -⟩ := go_in I B hK N
 have may := N.may
 have n1 : 1 ≤ sum := may.2.2.2.2.1
 have n2 : sum ≤ 1000000 := may.2.2.2.2.2.1
 have hfew := I.held.few
 have hp : ∀ (i : Bool) (k : Int), 1 ≤ k → k ≤ 3 → (Po.putS (b.snd i) ⟨0, k, n, sum⟩).2 = 0 := fun i k a1 a2 => put_ok (I.sent.right i) (hk i) (hs i) ⟨a1, a2⟩ ⟨h0, by show n < 30; omega⟩ ⟨n1, n2⟩
 have g3 : (Aw b.snd (Bd mv n sum).mv (Bd mv n sum).n (Bd mv n sum).sum).2 = 0 := by
  unfold Aw Bd
  dsimp only
  repeat' split
  ·exact hp _ _ (by decide) (by decide)
  ·exact hp _ _ (by decide) (by decide)
  ·exact hp _ _ (by decide) (by decide)
  ·rfl
 have e3 : By b (Bd mv n sum) = two (Eu b (Bd mv n sum)) := by
  unfold By
  rw [if_neg (by show ¬ ((3 : Int) = 1); decide), if_neg (by show ¬ ((3 : Int) = 2); decide), if_pos (show (Bd mv n sum).kind = 3 from rfl)]
 rw [e3]
 unfold Eu two
 have he' : ¬ (Au.mvErr (b.auth (Bd mv n sum).n) (Bd mv n sum).mv (Bd mv n sum).sum ≠ 0) := fun h => h he
 have hf' : ¬ ((Bd mv n sum).mv = 1 ∧ (b.card (b.auth (Bd mv n sum).n).card).m - (b.card (b.auth (Bd mv n sum).n).card).h < (Bd mv n sum).sum) := hf
 rw [if_neg (by rw [hd]; decide), if_neg q1, if_neg he', if_neg hf', if_neg (fun h => h g1), if_neg (fun h => h g2), if_neg (fun h => h g3), if_neg (by omega)]
def paceT : Pa := ⟨1000, 30, 1000000000000⟩
def Cl (cap : Int) : Aa := Av [paceT, paceT] 2 cap
theorem top_inv {cap : Int} (h : 0 ≤ cap ∧ cap ≤ 1000000) : Cj (Cl cap) := start_inv (by decide) (by decide) (by unfold St.Lim; omega) (by
 intro p hp
 have : p = paceT := by simp at hp; exact hp
 subst this
 decide)
theorem start_bound (ps : List Pa) (n : Nat) (cap : Int) : B6 0 (Av ps n cap) := fun acc _ => by
 show -(1000000 * ((0 : Nat) : Int)) ≤ Bk.getE [] acc ∧ Bk.getE [] acc ≤ _
 have : Bk.getE [] acc = 0 := rfl
 rw [this]; omega
theorem add_first {s t : Int} (hs : 1 ≤ s ∧ s ≤ 1000000) (ht : 0 ≤ t ∧ t ≤ 1000000) : Et paceT [] (t, s) = ([(t, s)], 0) := by
 unfold Et
 have h1 : Ba paceT [] (t, s) = 0 := by
  unfold Ba
  rw [if_neg (by decide), if_neg (by decide), if_neg (by
   have : inU (t, s) = true := inU_true.2 ⟨ht.1, ht.2, by dsimp only; omega, hs.2⟩
   rw [this]; decide), if_neg (by simp)]
 have h2 : out paceT [] (t, s) = [(t, s)] := rfl
 rw [h1, h2]
 have h3 : Gz [(t, s)] = s := by simp [Gz]
 rw [h3]
 simp only [ne_eq, not_true_eq_false, if_false]
 rw [if_neg (by simp [paceT]; omega)]
open RowKit Gn Maps
theorem infoDd : (Tryz.prog.info? 74).map (fun i => (i.zero, i.size, i.bytes)) = some (some (.agg #[.int .i64 0, .int .i64 0, .int .i64 0, .int .i64 0, .int .i64 0, .int .i64 0]), 6, 48) := by kernel_rfl
theorem elemDd : Elem Tryz.prog kDd 25 74 48 := by
 obtain ⟨i, h1, h2, h3, h4⟩ := info_parts infoDd
 exact ⟨Tryz.underlying25, i, _, h1, h2, h3, h4, rfl⟩
theorem tdo_any (k n s : Int) (w : World) : Calls Tryz.prog 39 #[.int .i64 k, .int .i64 n, .int .i64 s] w fun e w' => e = .returned (Ik ⟨0, k, n, 0, 0, s⟩) ∧ Below w.heap.size w w' := by
 have hb := below_alloc w (Eg ⟨0, k, n, 0, 0, s⟩)
 obtain ⟨d0, d1, d2, d3, d4, d5⟩ := Be (z := w.heap.size) (heap_alloc_at w (Eg ⟨0, k, n, 0, 0, s⟩) _ rfl)
 unfold Eg at hb d0 d1 d2 d3 d4 d5
 dsimp only at hb d0 d1 d2 d3 d4 d5
 go_enter Tryz.func39, Tryz.ntmps39
 go_wp2_with fail
 generalize w.alloc (.cells #[.int .i64 0, .int .i64 k, .int .i64 n, .int .i64 0, .int .i64 0, .int .i64 s] 74) = X at *
 exact bodyPost_ret (v := Ik ⟨0, k, n, 0, 0, s⟩) (by unfold Ik; simp [results, Tryz.results39, go_sem, d0, d1, d2, d3, d4, d5]; try rfl) rfl ⟨rfl, hb⟩
theorem tmove_any (k n s : Int) (w : World) : Calls Tryz.prog 40 #[.int .i64 k, .int .i64 n, .int .i64 s] w fun e w' => e = .returned (Ik ⟨0, 3, n, 0, k, s⟩) ∧ Below w.heap.size w w' := by
 have hb := below_alloc w (Eg ⟨0, 3, n, 0, k, s⟩)
 obtain ⟨d0, d1, d2, d3, d4, d5⟩ := Be (z := w.heap.size) (heap_alloc_at w (Eg ⟨0, 3, n, 0, k, s⟩) _ rfl)
 unfold Eg at hb d0 d1 d2 d3 d4 d5
 dsimp only at hb d0 d1 d2 d3 d4 d5
 go_enter Tryz.func40, Tryz.ntmps40
 go_wp2_with fail
 generalize w.alloc (.cells #[.int .i64 0, .int .i64 3, .int .i64 n, .int .i64 0, .int .i64 k, .int .i64 s] 74) = X at *
 exact bodyPost_ret (v := Ik ⟨0, 3, n, 0, k, s⟩) (by unfold Ik; simp [results, Tryz.results40, go_sem, d0, d1, d2, d3, d4, d5]; try rfl) rfl ⟨rfl, hb⟩
def smallB (l : List Int) : Bool := l.all fun n => decide (1 ≤ n) && decide (n ≤ 100000)
theorem small_any (a : Option Addr) (c : Nat) (l : List Int) (w : World) (hl : Gn.Lies kI w a c l) : Calls Tryz.prog 37 #[.slice a l.length c] w fun e w' => e = .returned (.bool (smallB l)) ∧ Below w.heap.size w w' := by
 have hmx := hl.len
 unfold maxLen at hmx
 go_enter Tryz.func37, Tryz.ntmps37
 go_upto_region 2 with fail
 go_loopw [7] (fun i wr => ∃ k : Nat, k ≤ l.length ∧ i = .int .i64 k ∧ Below w.heap.size w wr ∧ Hid (∀ j, j < k → 1 ≤ l.getD j 0 ∧ l.getD j 0 ≤ 100000)) (fun i _ => l.length - (intOf i).toNat)
 case atStart => exact ⟨0, Nat.zero_le _, rfl, Below.refl _ _, hid fun j hj => by omega⟩
 case round =>
  obtain ⟨k, hk, rfl, hbr, hq⟩ := hrel
  by_cases hlt : k < l.length
  ·have hlt' : (k : Int) < l.length := by omega
   obtain ⟨z, off, rfl, zlt, hcell⟩ := (hl.below hbr).elem (i := k) (x := l.getD k 0) (by simp [List.getD, hlt])
   have e0 := hcell 0 _ rfl
   dsimp only [kI] at e0
   simp only [Nat.add_zero, Nat.mul_one] at e0
   have hno : ¬ (1 ≤ l.getD k 0 ∧ l.getD k 0 ≤ 100000) → Hid (smallB l = false) := fun h => hid (by
    unfold smallB
    rw [List.all_eq_false]
    refine ⟨l.getD k 0, getD_mem' 0 hlt, ?_⟩
    revert h
    generalize l.getD k 0 = y
    intro h
    simp only [Bool.and_eq_true, decide_eq_true_eq]
    exact h)
   have hyes : (1 ≤ l.getD k 0 ∧ l.getD k 0 ≤ 100000) → Hid (∀ j, j < k + 1 → 1 ≤ l.getD j 0 ∧ l.getD j 0 ≤ 100000) := fun h => hid fun j hj => by
    by_cases e : j = k
    ·rw [e]; exact h
    ·exact hq.out j (by omega)
   clear hcell hq
   generalize l.getD k 0 = x at *
   by_cases h1 : x < 1
   ·have hs := hno (by omega)
    clear hno hyes
    go_wp2_with fail
    exact bodyPost_ret (results_tmp Tryz.results37 _ _ _) rfl ⟨by rw [hs.out]; rfl, hbr⟩
   ·by_cases h2 : 100000 < x
    ·have hs := hno (by omega)
     clear hno hyes
     go_wp2_with fail
     exact bodyPost_ret (results_tmp Tryz.results37 _ _ _) rfl ⟨by rw [hs.out]; rfl, hbr⟩
    ·have hs := hyes (by omega)
     clear hno hyes
     go_wp2_with fail
     go_roundw
     case rel => exact ⟨k + 1, by omega, by go_num, hbr, hs⟩
     case measure => simp [intOf]; omega
  ·obtain rfl : k = l.length := by omega
   have hge : ¬ ((l.length : Int) < l.length) := by omega
   have hs : Hid (smallB l = true) := hid (by
    unfold smallB
    rw [List.all_eq_true]
    intro x hx
    obtain ⟨j, hj, rfl⟩ := List.getElem_of_mem hx
    have := hq.out j hj
    simp [List.getD, hj] at this
    simp; omega)
   clear hq
   go_wp2_with fail
   exact bodyPost_ret (results_tmp Tryz.results37 _ _ _) rfl ⟨by rw [hs.out]; rfl, hbr⟩
