import Derived.Test.YtofcnebekmjdoaaGreatDoorQau
set_option maxHeartbeats 4000000
set_option maxRecDepth 100000
namespace Go.Proofs.YtofcnebekmjdoaaGreatDoor.Bn
def orE (x y : Int) : Int := if x ≠ 0 then x else y
theorem orE_zero (y : Int) : orE 0 y = y := rfl
theorem orE_left {x y : Int} (h : x ≠ 0) : orE x y = x := if_pos h
def andE (x : Aa × Int) (f : Aa → Aa × Int) : Aa × Int := ((f x.1).1, orE x.2 (f x.1).2)
def Ce (b : Aa) (n held money : Int) : Aa × Int :=
 if (Al (b.card n) held money).2 ≠ 0 then (b, (Al (b.card n) held money).2) else ({ b with cards := b.cards.set n.toNat (Al (b.card n) held money).1 }, 0)
def Ec (b : Aa) (src dst sum : Int) : Aa × Int :=
 if (Aj b.book src dst sum).2 ≠ 0 then (b, (Aj b.book src dst sum).2) else ({ b with book := (Aj b.book src dst sum).1 }, 0)
def Im (b : Aa) (i : Bool) (t : Po.Tr) : Aa × Int :=
 if (Po.putS (b.snd i) t).2 ≠ 0 then (b, (Po.putS (b.snd i) t).2) else ({ b with snd := upd b.snd i (Po.putS (b.snd i) t).1 }, 0)
def Cy (b : Aa) (n src sum : Int) : Aa × Int := andE (Ce b n 0 sum) fun x => Ec x src (10 + n) sum
def Bj (b : Aa) (n dst sum : Int) : Aa × Int := andE (Ce b n 0 (-sum)) fun x => Ec x (10 + n) dst sum
def dueP (b : Aa) (n by_ : Int) : Aa := { b with due := b.due.set n.toNat (b.dueOf n + by_) }
def If (b : Aa) (n src sum : Int) : Aa × Int := Ec (dueP b n sum) src (50 + n) sum
def Bv (b : Aa) (n dst sum : Int) : Aa × Int := Ec (dueP b n (-sum)) (50 + n) dst sum
def noteP (b : Aa) (r : Dy.Rc) : Aa × Int := if 100 ≤ b.today.length then (b, 5) else ({ b with today := b.today ++ [r] }, 0)
def B7 (b : Aa) (n : Int) (a : Au.Au) : Aa × Int := Ce { b with auths := b.auths.set n.toNat a } a.card (Au.holdA a - Au.holdA (b.auth n)) 0
def Cn (b : Aa) (a : Au.Au) (d : Dd) : Aa × Int :=
 if d.mv = 2 ∨ d.mv = 3 then andE (Bj b a.card 1 d.sum) fun x => Im x false ⟨0, 1, d.n, d.sum⟩
 else if d.mv = 5 then andE (Bv b a.shop 1 d.sum) fun x => Im x true ⟨0, 2, d.n, d.sum⟩
 else if d.mv = 6 then Cy b a.card 2 d.sum
 else if d.mv = 7 then Im b false ⟨0, 3, d.n, d.sum⟩
 else if d.mv = 8 then Bj b a.card 2 d.sum
 else (b, 0)
def goP (b : Aa) (d : Dd) (a : Au.Au) : Aa × Int :=
 andE (B7 b d.n a) fun x => andE (Cn x a d) fun y => noteP y ⟨a.shop, d.n, d.mv, d.sum⟩
theorem shift_in {c : Ca} {h m : Int} (R : Gx c) (h1 : ¬ far h m) (h2 : ¬ off (c.m + m) (c.h + h)) : Al c h m = (⟨c.m + m, c.h + h, c.p, c.u⟩, 0) := shiftC_ok (Cx.2 R) h1 h2
theorem right_in {c : Ca} {h m : Int} (R : Gx c) (h2 : ¬ off (c.m + m) (c.h + h)) : Gx ⟨c.m + m, c.h + h, c.p, c.u⟩ := Cx.1 ((right_shift (Cx.2 R)).2 h2)
theorem set_same {α : Type} (l : List α) (i : Nat) (d x : α) (h : x = l.getD i d) : l.set i x = l := by
 subst h
 by_cases hi : i < l.length
 ·apply List.ext_getElem?
  intro j
  rw [List.getElem?_set]
  by_cases e : i = j
  ·subst e; simp [hi, List.getD]
  ·simp [e]
 ·exact List.set_eq_of_length_le (by omega)
theorem shiftP_in {b : Aa} {n h m : Int} (R : Gx (b.card n)) (h1 : ¬ far h m) (h2 : ¬ off ((b.card n).m + m) ((b.card n).h + h)) :
  Ce b n h m = ({ b with cards := b.cards.set n.toNat ⟨(b.card n).m + m, (b.card n).h + h, (b.card n).p, (b.card n).u⟩ }, 0) := by
 unfold Ce
 rw [shift_in R h1 h2]
 simp
theorem Gg {b : Aa} {src dst sum : Int} (h : (Aj b.book src dst sum).2 = 0) : Ec b src dst sum = ({ b with book := (Aj b.book src dst sum).1 }, 0) := by
 unfold Ec; rw [if_neg (by simpa using h)]
theorem card_set (b : Aa) (cs : List Ca) (n : Int) (c : Ca) (h : n.toNat < cs.length) : ({ b with cards := cs.set n.toNat c } : Aa).card n = c := by
 unfold Aa.card
 dsimp only
 rw [B5 _ _ _ _ _ h, if_pos rfl]
structure Nums (b : Aa) (d : Dd) : Prop where
 may : Au.May (b.auth d.n) d.mv d.sum
 n0 : 0 ≤ d.n
 n1 : d.n.toNat < b.auths.length
 c0 : 0 ≤ (b.auth d.n).card
 c1 : (b.auth d.n).card.toNat < b.cards.length
 c8 : (b.auth d.n).card < 8
 s0 : 0 ≤ (b.auth d.n).shop
 s1 : (b.auth d.n).shop.toNat < b.due.length
 s8 : (b.auth d.n).shop < 8
 right : Gx (b.card (b.auth d.n).card)
 m1 : -400000000 ≤ (b.card (b.auth d.n).card).m
 m2 : (b.card (b.auth d.n).card).m ≤ 400000000
 h0 : 0 ≤ (b.card (b.auth d.n).card).h + (Au.holdA (Fz b d) - Au.holdA (b.auth d.n))
 h1 : (b.card (b.auth d.n).card).h + (Au.holdA (Fz b d) - Au.holdA (b.auth d.n)) ≤ 31000000
 g1 : -1000000 ≤ Au.holdA (Fz b d) - Au.holdA (b.auth d.n)
 g2 : Au.holdA (Fz b d) - Au.holdA (b.auth d.n) ≤ 1000000
 card : (Fz b d).card = (b.auth d.n).card
 shop : (Fz b d).shop = (b.auth d.n).shop
theorem nums_of {K : Nat} {b : Aa} {d : Dd} (I : Cj b) (B : B6 K b) (hK : K ≤ 400) (q1 : ¬ (d.n < 0 ∨ (b.auths.length : Int) ≤ d.n)) (q2 : Au.mvErr (b.auth d.n) d.mv d.sum = 0) : Nums b d := by
 have may := Au.mvErr_zero.1 q2
 obtain ⟨H, S, Bo⟩ := I
 have hn : d.n.toNat < b.auths.length := by omega
 obtain ⟨r1, r2, r3, r4⟩ := H.auth (k := d.n) (by omega) (by omega)
 have hc0 : 0 ≤ (b.auth d.n).card := r1.2.2.2.2.1.1
 have hs0 : 0 ≤ (b.auth d.n).shop := r1.2.2.2.2.2.1.1
 have hc8 : (b.auth d.n).card < 8 := r1.2.2.2.2.1.2
 have hs8 : (b.auth d.n).shop < 8 := r1.2.2.2.2.2.1.2
 obtain ⟨t1, t2, t3, t4, -⟩ := step_right may
 have k1 := Eb r1 r2
 have k2 : 0 ≤ Au.holdA (Fz b d) ∧ Au.holdA (Fz b d) ≤ 1000000 := Eb t1 t2
 have hk : (b.auth d.n).card.toNat < b.cards.length := by omega
 have hm := Bo.accC (b.auth d.n).card.toNat hk
 have hb := B (10 + (((b.auth d.n).card.toNat : Nat) : Int)) (by omega)
 rw [hm] at hb
 have hh := H.held (b.auth d.n).card.toNat hk
 have hs := H.small (b.auth d.n).card.toNat
 have hmem : b.auth d.n ∈ b.auths := getD_mem' _ hn
 have hge : Au.holdA (b.auth d.n) ≤ Ci (b.auth d.n).card.toNat b.auths := by
  have hsplit := sumOn_set (Dn (b.auth d.n).card.toNat) b.auths d.n.toNat zA zA hn
  have h0 : Dn (b.auth d.n).card.toNat (b.auths.getD d.n.toNat zA) = Au.holdA (b.auth d.n) := by
   show Dn _ (b.auth d.n) = _
   unfold Dn; rw [if_pos (by omega)]
  have h1 : Dn (b.auth d.n).card.toNat zA = 0 := by unfold Dn zA Au.none0 Au.holdA; split <;> simp
  have h2 := Id (f := Dn (b.auth d.n).card.toNat) (c := 1000000) (l := b.auths.set d.n.toNat zA) fun a ha => by
   rcases mem_set' ha with rfl | ha
   ·unfold Dn zA Au.none0 Au.holdA; split <;> simp
   ·have := Eb (H.auths a ha).1 (H.auths a ha).2.1
    unfold Dn
    split <;> omega
  rw [h0, h1] at hsplit
  unfold Ci
  omega
 have hM : (1000000 : Int) * (K : Int) ≤ 400000000 := by omega
 refine ⟨may, by omega, hn, hc0, hk, hc8, hs0, by omega, hs8, H.card hc0 (by omega), ?_, ?_, ?_, ?_, by omega, by omega, t3, t4⟩
 ·show -400000000 ≤ (b.cards.getD _ Ah).m; omega
 ·show (b.cards.getD _ Ah).m ≤ 400000000; omega
 ·show 0 ≤ (b.cards.getD _ Ah).h + _; rw [hh]; omega
 ·show (b.cards.getD _ Ah).h + _ ≤ 31000000; rw [hh]; omega
theorem become_in {b : Aa} {d : Dd} (N : Nums b d) : B7 b d.n (Fz b d) = ({ b with auths := b.auths.set d.n.toNat (Fz b d), cards := b.cards.set (b.auth d.n).card.toNat ⟨(b.card (b.auth d.n).card).m, (b.card (b.auth d.n).card).h + (Au.holdA (Fz b d) - Au.holdA (b.auth d.n)), (b.card (b.auth d.n).card).p, (b.card (b.auth d.n).card).u⟩ }, 0) := by
 unfold B7
 have h0 := N.h0; have h1 := N.h1; have g1 := N.g1; have g2 := N.g2; have m1 := N.m1; have m2 := N.m2
 have e : ({ b with auths := b.auths.set d.n.toNat (Fz b d) } : Aa).card (Fz b d).card = b.card (b.auth d.n).card := by rw [N.card]; rfl
 rw [shiftP_in (by rw [e]; exact N.right) (by unfold far; omega) (by rw [e]; unfold off; omega), e, N.card, Int.add_zero]
theorem move_room {K : Nat} {b : Aa} {src dst n : Int} (Bo : Books b) (B : B6 K b) (hK : K ≤ 400) (hs : 1 ≤ src ∧ src < 58) (hd : 1 ≤ dst ∧ dst < 58) (hne : src ≠ dst) (hn : 0 ≤ n ∧ n ≤ 1000000) : (Aj b.book src dst n).2 = 0 := by
 have h1 := B src (by omega)
 have h2 := B dst (by omega)
 exact moveB_fits Bo.right (by omega) (by omega) hne (by omega) (by omega) (by omega)
theorem put_same {b x : Aa} {i : Bool} {t : Po.Tr} (h : x.snd = b.snd) : (Im x i t).2 = (Po.putS (b.snd i) t).2 := by
 unfold Im; rw [h]; split
 ·rfl
 ·rename_i q; exact (Decidable.not_not.1 q).symm
theorem put_done {x : Aa} {i : Bool} {t : Po.Tr} (h : (Po.putS (x.snd i) t).2 = 0) : Im x i t = ({ x with snd := upd x.snd i (Po.putS (x.snd i) t).1 }, 0) := by
 unfold Im; rw [if_neg (by simpa using h)]
theorem put_today {x : Aa} {i : Bool} {t : Po.Tr} : (Im x i t).1.today = x.today := by
 unfold Im; split <;> rfl
theorem last_two {b x : Aa} {e : Int} {r : Dy.Rc} {P : Aa × Int} (h2 : P.2 = e) (h3 : P.1.today = b.today) :
  (andE P fun y => noteP y r).2 = (if e ≠ 0 then e else if 100 ≤ b.today.length then 5 else 0) ∧ (e = 0 → ¬ 100 ≤ b.today.length → P.1 = x → (andE P fun y => noteP y r).1 = { x with today := b.today ++ [r] }) := by
 unfold andE noteP
 dsimp only
 rw [h2, h3]
 constructor
 ·unfold orE
  split
  ·rfl
  ·split <;> rfl
 ·intro _ h5 h6
  rw [if_neg h5]
  dsimp only
  rw [h6]
theorem andE_ok {x : Aa × Int} {f : Aa → Aa × Int} (h : x.2 = 0) : andE x f = f x.1 := by
 unfold andE; rw [h, orE_zero]
theorem andE_zero (y : Aa) (f : Aa → Aa × Int) : andE (y, 0) f = f y := rfl
theorem go_in {K : Nat} {b : Aa} {d : Dd} (I : Cj b) (B : B6 K b) (hK : K ≤ 400) (N : Nums b d) :
    (Fc b d).2 = 0 ∧ (Dg b.book (b.auth d.n) d.mv d.sum).2 = 0 ∧
    (goP b d (Fz b d)).2 = (if (Aw b.snd d.mv d.n d.sum).2 ≠ 0 then (Aw b.snd d.mv d.n d.sum).2 else if 100 ≤ b.today.length then 5 else 0) ∧
    ((Aw b.snd d.mv d.n d.sum).2 = 0 → ¬ 100 ≤ b.today.length → (goP b d (Fz b d)).1 = Bt b d) := by
  have R := N.right
  have may := N.may
  have n1 := may.2.2.2.2.1
  have n2 := may.2.2.2.2.2.1
  have h0 := N.h0; have h1 := N.h1; have g1 := N.g1; have g2 := N.g2; have m1 := N.m1; have m2 := N.m2
  have c0 := N.c0; have c8 := N.c8; have s0 := N.s0; have s8 := N.s8
  have hin : ∀ x : Int, -1000000 ≤ x → x ≤ 1000000 → Al (b.card (b.auth d.n).card) (Au.holdA (Fz b d) - Au.holdA (b.auth d.n)) x = (⟨(b.card (b.auth d.n).card).m + x, (b.card (b.auth d.n).card).h + (Au.holdA (Fz b d) - Au.holdA (b.auth d.n)), (b.card (b.auth d.n).card).p, (b.card (b.auth d.n).card).u⟩, 0) := fun x h2 h3 =>
    shift_in R (by unfold far; omega) (by unfold off; omega)
  have hby : -1000000 ≤ Fa d.mv d.sum ∧ Fa d.mv d.sum ≤ 1000000 := by unfold Fa; repeat' split
                                                                      all_goals omega
  have hca : Fc b d = (⟨(b.card (b.auth d.n).card).m + Fa d.mv d.sum, (b.card (b.auth d.n).card).h + (Au.holdA (Fz b d) - Au.holdA (b.auth d.n)), (b.card (b.auth d.n).card).p, (b.card (b.auth d.n).card).u⟩, 0) := hin _ hby.1 hby.2
  have hbook : ∀ src dst : Int, 1 ≤ src → src < 58 → 1 ≤ dst → dst < 58 → src ≠ dst → (Aj b.book src dst d.sum).2 = 0 := fun src dst p1 p2 p3 p4 p5 => move_room I.books B hK ⟨p1, p2⟩ ⟨p3, p4⟩ p5 (by omega)
  have hbo : (Dg b.book (b.auth d.n) d.mv d.sum).2 = 0 := by
    unfold Dg
    repeat' split
    · exact hbook _ _ (by omega) (by omega) (by omega) (by omega) (by omega)
    · exact hbook _ _ (by omega) (by omega) (by omega) (by omega) (by omega)
    · exact hbook _ _ (by omega) (by omega) (by omega) (by omega) (by omega)
    · exact hbook _ _ (by omega) (by omega) (by omega) (by omega) (by omega)
    · rfl
  refine ⟨by rw [hca], hbo, ?_⟩
  have hbe := become_in N
  obtain ⟨x, hx⟩ : ∃ x, x = (B7 b d.n (Fz b d)).1 := ⟨_, rfl⟩
  have hx' := hx
  rw [hbe] at hx
  have hgo : goP b d (Fz b d) = andE (Cn x (Fz b d) d) fun y => noteP y ⟨(Fz b d).shop, d.n, d.mv, d.sum⟩ := by
    unfold goP
    rw [andE_ok (by rw [hbe]), ← hx']
  clear hx'
  have xs : x.snd = b.snd := by rw [hx]
  have xt : x.today = b.today := by rw [hx]
  have xb : x.book = b.book := by rw [hx]
  have xd : x.due = b.due := by rw [hx]
  have xc : x.card (b.auth d.n).card = ⟨(b.card (b.auth d.n).card).m, (b.card (b.auth d.n).card).h + (Au.holdA (Fz b d) - Au.holdA (b.auth d.n)), (b.card (b.auth d.n).card).p, (b.card (b.auth d.n).card).u⟩ := by
    rw [hx]
    exact card_set { b with auths := b.auths.set d.n.toNat (Fz b d) } b.cards _ _ N.c1
  have xR : Gx (x.card (b.auth d.n).card) := by
    rw [xc]
    have := right_in (c := b.card (b.auth d.n).card) (h := Au.holdA (Fz b d) - Au.holdA (b.auth d.n)) (m := 0) R (by unfold off; omega)
    rw [Int.add_zero] at this
    exact this
  have xsh : ∀ y : Int, -1000000 ≤ y → y ≤ 1000000 → Ce x (b.auth d.n).card 0 y = ({ x with cards := b.cards.set (b.auth d.n).card.toNat ⟨(b.card (b.auth d.n).card).m + y, (b.card (b.auth d.n).card).h + (Au.holdA (Fz b d) - Au.holdA (b.auth d.n)), (b.card (b.auth d.n).card).p, (b.card (b.auth d.n).card).u⟩ }, 0) := by
    intro y y1 y2
    rw [shiftP_in xR (by unfold far; omega) (by rw [xc]; unfold off; dsimp only; omega), xc]
    dsimp only
    rw [Int.add_zero]
    rw [hx]
    simp only [List.set_set]
  have xdue : ∀ y : Int, dueP x (b.auth d.n).shop y = { x with due := b.due.set (b.auth d.n).shop.toNat (b.dueOf (b.auth d.n).shop + y) } := by
    intro y
    unfold dueP Aa.dueOf
    rw [xd]
  have hcs : (Fc b d).1 = ⟨(b.card (b.auth d.n).card).m + Fa d.mv d.sum, (b.card (b.auth d.n).card).h + (Au.holdA (Fz b d) - Au.holdA (b.auth d.n)), (b.card (b.auth d.n).card).p, (b.card (b.auth d.n).card).u⟩ := by rw [hca]
  have hds : b.due.set (b.auth d.n).shop.toNat (b.dueOf (b.auth d.n).shop + 0) = b.due := set_same _ _ 0 _ (by rw [Int.add_zero]; rfl)
  have hall : ∀ (c : Ca) (du : List Int) (bk : List (Int × Int)) (sn : Bool → Po.Se), c = (Fc b d).1 → du = b.due.set (b.auth d.n).shop.toNat (b.dueOf (b.auth d.n).shop + dueBy d.mv d.sum) → bk = (Dg b.book (b.auth d.n) d.mv d.sum).1 → sn = (Aw b.snd d.mv d.n d.sum).1 →
      ({ b with auths := b.auths.set d.n.toNat (Fz b d), cards := b.cards.set (b.auth d.n).card.toNat c, due := du, book := bk, snd := sn, today := b.today ++ [⟨(Fz b d).shop, d.n, d.mv, d.sum⟩] } : Aa) = Bt b d := by
    intro c du bk sn e1 e2 e3 e4
    subst e1 e2 e3 e4
    rw [N.shop]
    rfl
  rw [hgo]
  have hmv := eight may.2.2.1 may.2.2.2.1
  clear hgo hbe
  -- what is put behind a step that is right
  have fin : ∀ (P : Aa × Int) (e : Int) (z : Aa), P.2 = e → P.1.today = b.today → e = (Aw b.snd d.mv d.n d.sum).2 → (e = 0 → P.1 = z) → ((e = 0) → ({ z with today := b.today ++ [⟨(Fz b d).shop, d.n, d.mv, d.sum⟩] } : Aa) = Bt b d) →
      (andE P fun y => noteP y ⟨(Fz b d).shop, d.n, d.mv, d.sum⟩).2 = (if (Aw b.snd d.mv d.n d.sum).2 ≠ 0 then (Aw b.snd d.mv d.n d.sum).2 else if 100 ≤ b.today.length then 5 else 0) ∧
      ((Aw b.snd d.mv d.n d.sum).2 = 0 → ¬ 100 ≤ b.today.length → (andE P fun y => noteP y ⟨(Fz b d).shop, d.n, d.mv, d.sum⟩).1 = Bt b d) := by
    intro P e z p1 p2 p3 p4 p5
    obtain ⟨l1, l2⟩ := last_two (b := b) (x := z) (r := ⟨(Fz b d).shop, d.n, d.mv, d.sum⟩) p1 p2
    rw [← p3]
    exact ⟨l1, fun q1 q2 => (l2 q1 q2 (p4 q1)).trans (p5 q1)⟩
  rcases hmv with h | h | h | h | h | h | h | h
  -- more
  · rw [show Cn x (Fz b d) d = (x, 0) by unfold Cn; rw [h]; simp]
    refine fin _ 0 x rfl xt (by unfold Aw; rw [h]; simp) (fun _ => rfl) fun _ => ?_
    rw [hx]
    exact hall _ _ _ _ (by rw [hcs]; unfold Fa; rw [h]; simp) (by unfold dueBy; rw [h]; exact hds.symm) (by unfold Dg; rw [h]; simp) (by unfold Aw; rw [h]; simp)
  -- capture
  · have e1 : Cn x (Fz b d) d = andE (Bj x (Fz b d).card 1 d.sum) fun x => Im x false ⟨0, 1, d.n, d.sum⟩ := by unfold Cn; rw [if_pos (by omega)]
    have e2 : (Aj b.book (10 + (b.auth d.n).card) 1 d.sum).2 = 0 := hbook _ _ (by omega) (by omega) (by omega) (by omega) (by omega)
    have e3 : Bj x (Fz b d).card 1 d.sum = ({ x with cards := b.cards.set (b.auth d.n).card.toNat ⟨(b.card (b.auth d.n).card).m + -d.sum, (b.card (b.auth d.n).card).h + (Au.holdA (Fz b d) - Au.holdA (b.auth d.n)), (b.card (b.auth d.n).card).p, (b.card (b.auth d.n).card).u⟩, book := (Aj b.book (10 + (b.auth d.n).card) 1 d.sum).1 }, 0) := by
      unfold Bj
      rw [N.card, xsh _ (by omega) (by omega), andE_ok rfl, Gg (by dsimp only; rw [xb]; exact e2)]
      dsimp only
      rw [xb]
    rw [e3, andE_zero] at e1
    rw [e1]
    have e4 : (Aw b.snd d.mv d.n d.sum).2 = (Po.putS (b.snd false) ⟨0, 1, d.n, d.sum⟩).2 := by unfold Aw; rw [if_pos (by omega)]
    refine fin _ _ _ (put_same (b := b) xs) (put_today.trans xt) e4.symm (fun q => congrArg Prod.fst (put_done (by show (Po.putS (x.snd false) _).2 = 0; rw [xs]; exact q))) fun _ => ?_
    dsimp only
    rw [hx]
    exact hall _ _ _ _ (by rw [hcs]; unfold Fa; rw [if_pos (by omega)]) (by unfold dueBy; rw [if_neg (by omega)]; exact hds.symm) (by unfold Dg; rw [if_pos (by omega)]) (by unfold Aw; rw [if_pos (by omega)])
  -- last
  · have e1 : Cn x (Fz b d) d = andE (Bj x (Fz b d).card 1 d.sum) fun x => Im x false ⟨0, 1, d.n, d.sum⟩ := by unfold Cn; rw [if_pos (by omega)]
    have e2 : (Aj b.book (10 + (b.auth d.n).card) 1 d.sum).2 = 0 := hbook _ _ (by omega) (by omega) (by omega) (by omega) (by omega)
    have e3 : Bj x (Fz b d).card 1 d.sum = ({ x with cards := b.cards.set (b.auth d.n).card.toNat ⟨(b.card (b.auth d.n).card).m + -d.sum, (b.card (b.auth d.n).card).h + (Au.holdA (Fz b d) - Au.holdA (b.auth d.n)), (b.card (b.auth d.n).card).p, (b.card (b.auth d.n).card).u⟩, book := (Aj b.book (10 + (b.auth d.n).card) 1 d.sum).1 }, 0) := by
      unfold Bj
      rw [N.card, xsh _ (by omega) (by omega), andE_ok rfl, Gg (by dsimp only; rw [xb]; exact e2)]
      dsimp only
      rw [xb]
    rw [e3, andE_zero] at e1
    rw [e1]
    have e4 : (Aw b.snd d.mv d.n d.sum).2 = (Po.putS (b.snd false) ⟨0, 1, d.n, d.sum⟩).2 := by unfold Aw; rw [if_pos (by omega)]
    refine fin _ _ _ (put_same (b := b) xs) (put_today.trans xt) e4.symm (fun q => congrArg Prod.fst (put_done (by show (Po.putS (x.snd false) _).2 = 0; rw [xs]; exact q))) fun _ => ?_
    dsimp only
    rw [hx]
    exact hall _ _ _ _ (by rw [hcs]; unfold Fa; rw [if_pos (by omega)]) (by unfold dueBy; rw [if_neg (by omega)]; exact hds.symm) (by unfold Dg; rw [if_pos (by omega)]) (by unfold Aw; rw [if_pos (by omega)])
  -- reverse
  · rw [show Cn x (Fz b d) d = (x, 0) by unfold Cn; rw [h]; simp]
    refine fin _ 0 x rfl xt (by unfold Aw; rw [h]; simp) (fun _ => rfl) fun _ => ?_
    rw [hx]
    exact hall _ _ _ _ (by rw [hcs]; unfold Fa; rw [h]; simp) (by unfold dueBy; rw [h]; exact hds.symm) (by unfold Dg; rw [h]; simp) (by unfold Aw; rw [h]; simp)
  -- refund
  · have e1 : Cn x (Fz b d) d = andE (Bv x (Fz b d).shop 1 d.sum) fun x => Im x true ⟨0, 2, d.n, d.sum⟩ := by unfold Cn; rw [if_neg (by omega), if_pos h]
    have e2 : (Aj b.book (50 + (b.auth d.n).shop) 1 d.sum).2 = 0 := hbook _ _ (by omega) (by omega) (by omega) (by omega) (by omega)
    have e3 : Bv x (Fz b d).shop 1 d.sum = ({ x with due := b.due.set (b.auth d.n).shop.toNat (b.dueOf (b.auth d.n).shop + -d.sum), book := (Aj b.book (50 + (b.auth d.n).shop) 1 d.sum).1 }, 0) := by
      unfold Bv
      rw [N.shop, xdue, Gg (by dsimp only; rw [xb]; exact e2)]
      dsimp only
      rw [xb]
    rw [e3, andE_zero] at e1
    rw [e1]
    have e4 : (Aw b.snd d.mv d.n d.sum).2 = (Po.putS (b.snd true) ⟨0, 2, d.n, d.sum⟩).2 := by unfold Aw; rw [if_neg (by omega), if_pos h]
    refine fin _ _ _ (put_same (b := b) xs) (put_today.trans xt) e4.symm (fun q => congrArg Prod.fst (put_done (by show (Po.putS (x.snd true) _).2 = 0; rw [xs]; exact q))) fun _ => ?_
    dsimp only
    rw [hx]
    exact hall _ _ _ _ (by rw [hcs]; unfold Fa; rw [h]; simp) (by unfold dueBy; rw [if_pos h]) (by unfold Dg; rw [if_neg (by omega), if_pos h]) (by unfold Aw; rw [if_neg (by omega), if_pos h])
  -- dispute
  · have e1 : Cn x (Fz b d) d = Cy x (Fz b d).card 2 d.sum := by unfold Cn; rw [if_neg (by omega), if_neg (by omega), if_pos h]
    have e2 : (Aj b.book 2 (10 + (b.auth d.n).card) d.sum).2 = 0 := hbook _ _ (by omega) (by omega) (by omega) (by omega) (by omega)
    have e3 : Cy x (Fz b d).card 2 d.sum = ({ x with cards := b.cards.set (b.auth d.n).card.toNat ⟨(b.card (b.auth d.n).card).m + d.sum, (b.card (b.auth d.n).card).h + (Au.holdA (Fz b d) - Au.holdA (b.auth d.n)), (b.card (b.auth d.n).card).p, (b.card (b.auth d.n).card).u⟩, book := (Aj b.book 2 (10 + (b.auth d.n).card) d.sum).1 }, 0) := by
      unfold Cy
      rw [N.card, xsh _ (by omega) (by omega), andE_ok rfl, Gg (by dsimp only; rw [xb]; exact e2)]
      dsimp only
      rw [xb]
    rw [e1, e3]
    refine fin _ 0 _ rfl xt (by unfold Aw; rw [h]; simp) (fun _ => rfl) fun _ => ?_
    dsimp only
    rw [hx]
    exact hall _ _ _ _ (by rw [hcs]; unfold Fa; rw [h]; simp) (by unfold dueBy; rw [if_neg (by omega)]; exact hds.symm) (by unfold Dg; rw [if_neg (by omega), if_neg (by omega), if_pos h]) (by unfold Aw; rw [h]; simp)
  -- for the card
  · have e1 : Cn x (Fz b d) d = Im x false ⟨0, 3, d.n, d.sum⟩ := by unfold Cn; rw [if_neg (by omega), if_neg (by omega), if_neg (by omega), if_pos h]
    rw [e1]
    have e4 : (Aw b.snd d.mv d.n d.sum).2 = (Po.putS (b.snd false) ⟨0, 3, d.n, d.sum⟩).2 := by unfold Aw; rw [if_neg (by omega), if_neg (by omega), if_pos h]
    refine fin _ _ _ (put_same (b := b) xs) (put_today.trans xt) e4.symm (fun q => congrArg Prod.fst (put_done (by rw [xs]; exact q))) fun _ => ?_
    dsimp only
    rw [hx]
    exact hall _ _ _ _ (by rw [hcs]; unfold Fa; rw [h]; simp) (by unfold dueBy; rw [if_neg (by omega)]; exact hds.symm) (by unfold Dg; rw [h]; simp) (by unfold Aw; rw [if_neg (by omega), if_neg (by omega), if_pos h])
  -- for the shop
  · have e1 : Cn x (Fz b d) d = Bj x (Fz b d).card 2 d.sum := by unfold Cn; rw [if_neg (by omega), if_neg (by omega), if_neg (by omega), if_neg (by omega), if_pos h]
    have e2 : (Aj b.book (10 + (b.auth d.n).card) 2 d.sum).2 = 0 := hbook _ _ (by omega) (by omega) (by omega) (by omega) (by omega)
    have e3 : Bj x (Fz b d).card 2 d.sum = ({ x with cards := b.cards.set (b.auth d.n).card.toNat ⟨(b.card (b.auth d.n).card).m + -d.sum, (b.card (b.auth d.n).card).h + (Au.holdA (Fz b d) - Au.holdA (b.auth d.n)), (b.card (b.auth d.n).card).p, (b.card (b.auth d.n).card).u⟩, book := (Aj b.book (10 + (b.auth d.n).card) 2 d.sum).1 }, 0) := by
      unfold Bj
      rw [N.card, xsh _ (by omega) (by omega), andE_ok rfl, Gg (by dsimp only; rw [xb]; exact e2)]
      dsimp only
      rw [xb]
    rw [e1, e3]
    refine fin _ 0 _ rfl xt (by unfold Aw; rw [h]; simp) (fun _ => rfl) fun _ => ?_
    dsimp only
    rw [hx]
    exact hall _ _ _ _ (by rw [hcs]; unfold Fa; rw [h]; simp) (by unfold dueBy; rw [if_neg (by omega)]; exact hds.symm) (by unfold Dg; rw [if_neg (by omega), if_neg (by omega), if_neg (by omega), if_pos h]) (by unfold Aw; rw [h]; simp)
def moveP (b : Aa) (d : Dd) : Aa × Int :=
 if b.down = true then (b, 12)
 else if d.n < 0 ∨ (b.auths.length : Int) ≤ d.n then (b, 6)
 else if Au.mvErr (b.auth d.n) d.mv d.sum ≠ 0 then (b, Au.mvErr (b.auth d.n) d.mv d.sum)
 else if d.mv = 1 ∧ (b.card (b.auth d.n).card).m - (b.card (b.auth d.n).card).h < d.sum then (b, 10)
 else goP b d (Fz b d)
def Plan (x y : Aa × Int) : Prop := x.2 = y.2 ∧ (y.2 = 0 → x.1 = y.1)
theorem plan_refl (x : Aa × Int) : Plan x x := ⟨rfl, fun _ => rfl⟩
theorem plan_ite {c : Prop} [Decidable c] {x y z : Aa × Int} (h : ¬ c → Plan y z) : Plan (if c then x else y) (if c then x else z) := by
 split
 ·exact plan_refl x
 ·rename_i q; exact h q
theorem move_plan {K : Nat} {b : Aa} {d : Dd} (I : Cj b) (B : B6 K b) (hK : K ≤ 400) : Plan (moveP b d) (Eu b d) := by
 unfold moveP Eu
 refine plan_ite fun q1 => plan_ite fun q2 => plan_ite fun q3 => plan_ite fun q4 => ?_
 obtain ⟨g1, g2, g3, g4⟩ := go_in I B hK (nums_of I B hK q2 (Decidable.not_not.1 q3))
 rw [if_neg (by simpa using g1), if_neg (by simpa using g2)]
 refine ⟨?_, ?_⟩
 ·rw [g3]
  split
  ·rfl
  ·split <;> rfl
 ·intro h
  split at h
  ·rename_i q; exact absurd h q
  ·rename_i q
   rw [if_neg q]
   split at h
   ·cases h
   ·rename_i q'
    rw [if_neg q']
    exact g4 (Decidable.not_not.1 q) q'
