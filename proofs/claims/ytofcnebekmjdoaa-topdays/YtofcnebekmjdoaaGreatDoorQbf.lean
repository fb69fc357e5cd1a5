import Derived.Test.YtofcnebekmjdoaaGreatDoorQbd
import Derived.Test.YtofcnebekmjdoaaGreatDoorQbe
set_option maxHeartbeats 4000000
set_option maxRecDepth 100000
namespace Go.Proofs.YtofcnebekmjdoaaGreatDoor.Bn
def Do (k : Nat) (a : Au.Au) : Int := if a.card = (k : Int) then a.cap - a.ref - a.dis else 0
def cardA (l : List Au.Au) (n : Int) : Int := (l.getD n.toNat zA).card
def gives (l : List Au.Au) (k : Nat) (t : Po.Tr) : Int := if cardA l t.a = (k : Int) then t.s else 0
def He (l : List Au.Au) (k : Nat) (Cd : Int) (t : Po.Tr) : Int := if Cd < t.n then gives l k t else 0
def Er (k : Nat) (b : Aa) : Int := (b.cards.getD k Ah).m + Af (Do k) b.auths + Af (He b.auths k (b.seen false)) (b.snd true).kept
def StaysC (b x : Aa) : Prop := b.auths.length ≤ x.auths.length ∧ ∀ n : Nat, n < b.auths.length → (x.auths.getD n zA).card = (b.auths.getD n zA).card
theorem staysC_same {b x : Aa} (h : x.auths = b.auths) : StaysC b x := by unfold StaysC; rw [h]; exact ⟨Nat.le_refl _, fun _ _ => rfl⟩
theorem staysC_append {b x : Aa} {l : List Au.Au} (h : x.auths = b.auths ++ l) : StaysC b x := by
 unfold StaysC
 rw [h]
 refine ⟨by simp, fun n hn => ?_⟩
 simp [List.getD, List.getElem?_append_left hn]
theorem step_card (a : Au.Au) (k n : Int) : (Au.step a k n).card = a.card := by
 unfold Au.step
 repeat' split
 all_goals rfl
theorem staysC_set {b x : Aa} {i : Nat} {k n : Int} (hi : i < b.auths.length) (h : x.auths = b.auths.set i (Au.step (b.auths.getD i zA) k n)) : StaysC b x := by
 unfold StaysC
 rw [h]
 refine ⟨by simp, fun j hj => ?_⟩
 rw [B5 _ _ _ _ _ hi]
 split
 ·rename_i e; subst e; exact step_card _ _ _
 ·rfl
theorem staysC_shut (b : Aa) : StaysC b (shutB b) := by
 refine ⟨by simp [shutB], fun n hn => ?_⟩
 show ((b.auths.map fun a => Au.lateA a b.time).getD n zA).card = _
 simp [List.getD, hn, Au.lateA]
theorem pendC_those (l : List Au.Au) (k : Nat) {s Cd : Int} (h : s ≤ Cd) (L : List Po.Tr) : Af (He l k Cd) (Po.those s L) = Af (He l k Cd) L := by
 unfold Po.those
 induction L with
 | nil => rfl
 | cons t r ih =>
  by_cases e : s < t.n
  ·rw [List.filter_cons_of_pos (by simpa using e)]
   simp only [Af, ih]
  ·rw [List.filter_cons_of_neg (by simpa using e), ih]
   simp only [Af]
   unfold He
   rw [if_neg (by omega)]; omega
theorem pendC_more (l : List Au.Au) (k : Nat) {s : Po.Se} (R : Po.Right s) {t : Po.Tr} (ht : t ∈ s.kept) {Cd : Int} (hn : t.n = Cd + 1) : Af (He l k (Cd + 1)) s.kept = Af (He l k Cd) s.kept - gives l k t := by
 rw [sum_one (right_rise R) ht (f := He l k (Cd + 1)) (g := He l k Cd)]
 ·unfold He
  rw [if_neg (by omega), if_pos (by omega)]; omega
 ·intro x _ hx
  unfold He
  by_cases h1 : Cd < x.n
  ·rw [if_pos h1, if_pos (by omega)]
  ·rw [if_neg h1, if_neg (by omega)]
theorem pendC_stays {b x : Aa} (h : StaysC b x) (k : Nat) (Cd : Int) {L : List Po.Tr} (hL : ∀ t ∈ L, 0 ≤ t.a ∧ t.a < b.auths.length) : Af (He x.auths k Cd) L = Af (He b.auths k Cd) L :=
 sumOn_congr fun t ht => by
  have := h.2 t.a.toNat (by have := hL t ht; omega)
  unfold He gives cardA
  rw [this]
theorem cbal_still {b x : Aa} (I : Cj b) (k : Nat) (h1 : (x.cards.getD k Ah).m = (b.cards.getD k Ah).m) (h2 : Af (Do k) x.auths = Af (Do k) b.auths) (h3 : StaysC b x) (h4 : x.seen false = b.seen false) (h5 : (x.snd true).kept = (b.snd true).kept) : Er k x = Er k b := by
 unfold Er
 rw [h1, h2, h4, h5, pendC_stays h3 k _ (kept_in I true)]
theorem Fk {b x : Aa} (I : Cj b) (k : Nat) (h1 : x.cards = b.cards) (h2 : x.auths = b.auths) (h4 : x.seen false = b.seen false) (h5 : (x.snd true).kept = (b.snd true).kept) : Er k x = Er k b :=
 cbal_still I k (by rw [h1]) (by rw [h2]) (staysC_same h2) h4 h5
theorem load_cbal {b : Aa} {d : Dd} (k : Nat) (h : (Ff b d).2 = 0) : Er k (Ff b d).1 = Er k b + (if d.n = (k : Int) then d.sum else 0) := by
 unfold Ff at h ⊢
 split at h
 ·cases h
 rename_i h1
 rw [if_neg h1]
 split at h
 ·cases h
 rename_i h2
 rw [if_neg h2]
 split at h
 ·rename_i h3; exact absurd h h3
 rename_i h3
 rw [if_neg h3]
 split at h
 ·rename_i h4; exact absurd h h4
 rename_i h4
 rw [if_neg h4]
 obtain ⟨-, g2, -⟩ := Df (Decidable.not_not.1 h3)
 show ((b.cards.set d.n.toNat (Al (b.card d.n) 0 d.sum).1).getD k Ah).m + _ + _ = Er k b + _
 rw [B5 _ _ _ _ _ (by omega), g2]
 unfold Er
 by_cases e : d.n.toNat = k
 ·rw [if_pos e, if_pos (by omega)]
  have : (b.card d.n).m = (b.cards.getD k Ah).m := by unfold Aa.card; rw [e]
  dsimp only
  rw [this]; omega
 ·rw [if_neg e, if_neg (by omega)]; dsimp only; omega
theorem ask_cbal {b : Aa} {d : Dd} (I : Cj b) (k : Nat) : Er k (askB b d).1 = Er k b := by
 unfold askB Dx Hf
 split
 ·rfl
 rename_i h1
 split
 ·split
  ·rfl
  ·split
   ·rfl
   ·exact Fk I k rfl rfl rfl rfl
 ·split
  ·rfl
  ·rename_i h2
   split
   ·rfl
   ·split
    ·rfl
    ·rename_i h4
     obtain ⟨n1, -⟩ := newA_zero (Decidable.not_not.1 h2)
     obtain ⟨-, -, -, -, -, c2, -⟩ := allow_zero (Decidable.not_not.1 h4)
     refine cbal_still I k ?_ ?_ (staysC_append rfl) rfl rfl
     ·show ((b.cards.set d.n.toNat _).getD k Ah).m = _
      rw [B5 _ _ _ _ _ (by omega)]
      split
      ·rename_i e; subst e; rw [c2]; rfl
      ·rfl
     ·show Af (Do k) (b.auths ++ [_]) = _
      rw [Cb, Di, n1]
      unfold Do; dsimp only
      split <;> omega
theorem shut_cbal {b : Aa} (I : Cj b) (k : Nat) (hk : k < b.cards.length) : Er k (shutB b) = Er k b := by
 obtain ⟨-, l2⟩ := fold_late b.time b.auths b.cards fun a ha => ⟨(I.held.auths a ha).1.2.2.2.2.1.1, (I.held.auths a ha).2.2.1⟩
 refine cbal_still I k ?_ ?_ (staysC_shut b) rfl rfl
 ·show ((b.auths.foldl (Fh b.time) b.cards).getD k Ah).m = _
  rw [l2 k hk]
 ·show Af (Do k) (b.auths.map _) = _
  rw [Ic]; rfl
theorem tick_mid {b : Aa} {d : Dd} (I : Cj b) (h1 : ¬ (d.sum < 0 ∨ 1000000 < d.sum ∨ 1000000 < b.time + d.sum)) : Cj { b with time := b.time + d.sum } := by
 obtain ⟨H, S, B⟩ := I
 refine ⟨⟨H.cards8, H.due8, H.right, H.few, H.auths, H.held, H.stand, H.standN, fun x hx => ⟨(H.advs x hx).1, ?_⟩, H.noadv, ?_, ?_, H.today⟩, ⟨S.right, S.seen0, S.seen1, S.keeps, S.auths, S.kind0, S.kind1, S.ways, S.way60⟩, ⟨B.right, B.accC, B.accS, B.acc1, B.acc2⟩⟩
 ·have := (H.advs x hx).2; show x.t ≤ b.time + d.sum; omega
 ·have := H.time0; show 0 ≤ b.time + d.sum; omega
 ·show b.time + d.sum ≤ 1000000; omega
theorem tick_cbal {b : Aa} {d : Dd} (I : Cj b) (k : Nat) (hk : k < b.cards.length) : Er k (Fs b d).1 = Er k b := by
 unfold Fs
 split
 ·rfl
 ·rename_i h1
  split
  ·exact Fk I k rfl rfl rfl rfl
  ·exact (shut_cbal (tick_mid I h1) k hk).trans (Fk I k rfl rfl rfl rfl)
theorem up_cbal {b : Aa} (I : Cj b) (k : Nat) (hk : k < b.cards.length) : Er k (upB b).1 = Er k b := by
 unfold upB
 split
 ·rename_i h1
  have hf : ∀ x ∈ b.stand.adv, St.Fits x b.stand.used.length := I.held.stand.adv.each
  obtain ⟨l1, l2⟩ := fold_force b.stand.adv b.cards fun x hx => by have := hf x hx; rw [I.held.standN] at this; exact ⟨this.1, this.2.1⟩
  refine (shut_cbal (up_mid I h1) k (by show k < (b.stand.adv.foldl Du b.cards).length; rw [l1]; exact hk)).trans ?_
  refine cbal_still I k ?_ ?_ (staysC_append rfl) rfl rfl
  ·show ((b.stand.adv.foldl Du b.cards).getD k Ah).m = _
   rw [l2 k hk]
  ·show Af (Do k) (b.auths ++ b.stand.adv.map Hi) = _
   rw [Cb, Ic, sumOn_zero (f := fun x => Do k (Hi x)) (fun x _ => by unfold Do Hi; dsimp only; split <;> omega)]; omega
 ·rfl
theorem comes_cbal {b : Aa} {i : Bool} {t : Po.Tr} (I : Cj b) (k : Nat) (ht : t ∈ (b.snd (!i)).kept) (hn : t.n = b.seen i + 1) (h : (Fv b i t).2 = 0) : Er k (Fv b i t).1 = Er k b := by
 have hin := kept_in I (!i) t ht
 obtain ⟨r1, -, r3, -⟩ := I.held.auth hin.1 hin.2
 have hc0 : 0 ≤ (b.auth t.a).card := r1.2.2.2.2.1.1
 have hci : (b.auth t.a).card.toNat < b.cards.length := by omega
 have hch : cardA b.auths t.a = (b.auth t.a).card := rfl
 unfold Fv at h ⊢
 cases i with
 | true =>
  have hse : upd b.seen true (b.seen true + 1) false = b.seen false := Ck b.seen true _
  rcases I.sent.kind0 t ht with hk | hk
  ·rw [if_pos hk] at h ⊢
   split at h
   ·rename_i q; exact absurd h q
   rename_i q
   rw [if_neg q]
   exact Fk I k rfl rfl hse rfl
  ·rw [if_neg (by omega), if_neg (by omega), if_pos hk] at h ⊢
   split at h
   ·rename_i q; exact absurd h q
   rename_i q
   rw [if_neg q]
   exact Fk I k rfl rfl hse rfl
 | false =>
  have hp := pendC_more b.auths k (I.sent.right true) ht hn
  have hse : upd b.seen false (b.seen false + 1) false = b.seen false + 1 := B8 _ _ _
  have hk := I.sent.kind1 t ht
  rw [if_neg (by omega), if_pos hk] at h ⊢
  split at h
  ·rename_i q; exact absurd h q
  rename_i q
  rw [if_neg q]
  split at h
  ·rename_i q2; exact absurd h q2
  rename_i q2
  rw [if_neg q2]
  obtain ⟨-, g2, -⟩ := Df (Decidable.not_not.1 q)
  show ((b.cards.set (b.auth t.a).card.toNat (Al (b.card (b.auth t.a).card) 0 t.s).1).getD k Ah).m + Af (Do k) b.auths + Af (He b.auths k (upd b.seen false (b.seen false + 1) false)) (b.snd true).kept = Er k b
  rw [hse, hp, B5 _ _ _ _ _ hci, g2]
  unfold Er gives
  rw [hch]
  by_cases e : (b.auth t.a).card.toNat = k
  ·rw [if_pos e, if_pos (by omega)]
   have : (b.card (b.auth t.a).card).m = (b.cards.getD k Ah).m := by unfold Aa.card; rw [e]
   dsimp only
   rw [this]; omega
  ·rw [if_neg e, if_neg (by omega)]; omega
theorem arrive_cbal {b : Aa} {d : Dd} {lost : Bool} (I : Cj b) (k : Nat) (h : (Ao b d lost).2 = 0) : Er k (Ao b d lost).1 = Er k b := by
 unfold Ao at h ⊢
 by_cases h1 : d.n < 0 ∨ 1 < d.n
 ·rw [if_pos h1]
 rw [if_neg h1] at h ⊢
 generalize B3 d.n = i at *
 cases hw : b.way i with
 | nil => rfl
 | cons p r =>
  rw [hw] at h
  dsimp only at h ⊢
  cases lost with
  | true => rw [if_pos rfl]; exact Fk (x := Cw b i) I k rfl rfl rfl rfl
  | false =>
   rw [if_neg (by simp)] at h ⊢
   have hp := I.sent.ways i p (by rw [hw]; exact List.mem_cons_self)
   unfold Co at h ⊢
   by_cases h2 : 0 ≤ p.seen
   ·rw [if_pos h2] at h ⊢
    split at h
    ·rename_i h3; exact absurd h h3
    rename_i h3
    rw [if_neg h3]
    obtain ⟨-, -, -, hb⟩ := backS_zero (Decidable.not_not.1 h3)
    have hn : p.seen ≤ b.seen (!i) := by
     rcases hp with ⟨g1, -⟩ | ⟨-, g2⟩
     ·omega
     ·exact g2
    show (b.cards.getD k Ah).m + Af (Do k) b.auths + Af (He b.auths k (b.seen false)) (upd b.snd i (Po.backS (b.snd i) p.seen).1 true).kept = Er k b
    unfold Er
    cases i with
    | false =>
     have : upd b.snd false (Po.backS (b.snd false) p.seen).1 true = b.snd true := Ck b.snd false _
     rw [this]
    | true =>
     rw [B8, hb]
     show _ + Af _ (Po.those p.seen (b.snd true).kept) = _
     have hn2 : p.seen ≤ b.seen false := hn
     rw [pendC_those _ _ hn2]
   ·rw [if_neg h2] at h ⊢
    by_cases h3 : p.t.n ≠ b.seen i + 1 ∨ 1000000 ≤ b.seen i
    ·rw [if_pos h3]; exact Fk I k rfl rfl rfl rfl
    ·rw [if_neg h3] at h ⊢
     refine comes_cbal I k ?_ (by omega) h
     rcases hp with ⟨-, g1 | g1⟩ | ⟨g1, -⟩
     ·omega
     ·exact g1
     ·omega
def spentD (k n : Int) : Int := if k = 2 ∨ k = 3 ∨ k = 8 then n else if k = 5 ∨ k = 6 then -n else 0
theorem step_spent {a : Au.Au} {k n : Int} (h1 : 1 ≤ k) (h2 : k ≤ 8) : (Au.step a k n).cap - (Au.step a k n).ref - (Au.step a k n).dis = a.cap - a.ref - a.dis + spentD k n := by
 unfold spentD
 rcases eight h1 h2 with rfl | rfl | rfl | rfl | rfl | rfl | rfl | rfl <;> simp [Au.step] <;> omega
def pendCD (k n : Int) : Int := if k = 5 then n else 0
theorem send_pendC {b : Aa} (S : Sent b) (l : List Au.Au) (k : Nat) {kind auth n : Int} (h : (Aw b.snd kind auth n).2 = 0) :
  Af (He l k (b.seen false)) ((Aw b.snd kind auth n).1 true).kept = Af (He l k (b.seen false)) (b.snd true).kept + (if cardA l auth = (k : Int) then pendCD kind n else 0) := by
 have hoth : ∀ x, upd b.snd false x true = b.snd true := fun x => Ck b.snd false x
 unfold Aw at h ⊢
 unfold pendCD
 by_cases k1 : kind = 2 ∨ kind = 3
 ·rw [if_pos k1] at h ⊢
  dsimp only
  rw [hoth, if_neg (show ¬ kind = 5 by omega)]; simp
 rw [if_neg k1] at h ⊢
 by_cases k2 : kind = 5
 ·rw [if_pos k2] at h ⊢
  dsimp only
  rw [B8, if_pos k2]
  obtain ⟨p1, -⟩ := put_zero h
  rw [p1]
  show Af _ ((b.snd true).kept ++ [Po.nextT (b.snd true) ⟨0, 2, auth, n⟩]) = _
  rw [Cb, Di]
  have hc : b.seen false < (Po.nextT (b.snd true) ⟨0, 2, auth, n⟩).n := by
   have := S.seen1 false
   show _ < (b.snd true).sent + 1
   simp only [Bool.not_false] at this; omega
  have : He l k (b.seen false) (Po.nextT (b.snd true) ⟨0, 2, auth, n⟩) = (if cardA l auth = (k : Int) then n else 0) := by unfold He; rw [if_pos hc]; rfl
  rw [this]
 rw [if_neg k2] at h ⊢
 by_cases k3 : kind = 7
 ·rw [if_pos k3] at h ⊢
  dsimp only
  rw [hoth, if_neg (show ¬ kind = 5 by omega)]; simp
 rw [if_neg k3] at h ⊢
 rw [if_neg (show ¬ kind = 5 by omega)]; simp
theorem move_cbal {b : Aa} {d : Dd} (I : Cj b) (k : Nat) (h : (Eu b d).2 = 0) : Er k (Eu b d).1 = Er k b := by
 unfold Eu at h ⊢
 split at h
 ·cases h
 rename_i q1
 rw [if_neg q1]
 split at h
 ·cases h
 rename_i q2
 rw [if_neg q2]
 split at h
 ·rename_i q; exact absurd h q
 rename_i q3
 rw [if_neg q3]
 split at h
 ·cases h
 rename_i q4
 rw [if_neg q4]
 split at h
 ·rename_i q; exact absurd h q
 rename_i q5
 rw [if_neg q5]
 split at h
 ·rename_i q; exact absurd h q
 rename_i q6
 rw [if_neg q6]
 split at h
 ·rename_i q; exact absurd h q
 rename_i q7
 rw [if_neg q7]
 split at h
 ·cases h
 rename_i q8
 rw [if_neg q8]
 replace q3 := Au.mvErr_zero.1 (Decidable.not_not.1 q3)
 replace q7 : (Aw b.snd d.mv d.n d.sum).2 = 0 := Decidable.not_not.1 q7
 obtain ⟨-, g2, -⟩ := Df (Decidable.not_not.1 q5)
 have hn : d.n.toNat < b.auths.length := by omega
 obtain ⟨r1, -, r3, -⟩ := I.held.auth (k := d.n) (by omega) (by omega)
 have hc0 : 0 ≤ (b.auth d.n).card := r1.2.2.2.2.1.1
 have hci : (b.auth d.n).card.toNat < b.cards.length := by omega
 have k1 := q3.2.2.1
 have k2 := q3.2.2.2.1
 have hst : StaysC b (Bt b d) := staysC_set hn rfl
 have hpx : Af (He (Bt b d).auths k (b.seen false)) ((Aw b.snd d.mv d.n d.sum).1 true).kept = Af (He b.auths k (b.seen false)) ((Aw b.snd d.mv d.n d.sum).1 true).kept := by
  obtain ⟨w0, -⟩ := send_zero (x := Bt b d) I.sent q7 (by omega) rfl rfl rfl (by simp [Bt])
  refine pendC_stays hst k _ fun t ht => ?_
  have h1 := (Fe (w0.right true) ht).2.1
  unfold Po.far at h1
  have h2 := w0.auths true t ht
  have h3 : (Bt b d).auths.length = b.auths.length := by simp [Bt]
  exact ⟨by omega, by omega⟩
 have hcap : Af (Do k) (b.auths.set d.n.toNat (Fz b d)) = Af (Do k) b.auths + (if (b.auth d.n).card = (k : Int) then spentD d.mv d.sum else 0) := by
  rw [sumOn_set _ _ _ _ zA hn]
  have e1 : (Fz b d).card = (b.auth d.n).card := step_card _ _ _
  have e2 : (Fz b d).cap - (Fz b d).ref - (Fz b d).dis = (b.auth d.n).cap - (b.auth d.n).ref - (b.auth d.n).dis + spentD d.mv d.sum := step_spent k1 k2
  have e3 : Do k (b.auths.getD d.n.toNat zA) = Do k (b.auth d.n) := rfl
  rw [e3]
  unfold Do
  rw [e1, e2]
  split <;> omega
 have hcc : (Fc b d).1 = ⟨(b.card (b.auth d.n).card).m + Fa d.mv d.sum, (b.card (b.auth d.n).card).h + (Au.holdA (Fz b d) - Au.holdA (b.auth d.n)), (b.card (b.auth d.n).card).p, (b.card (b.auth d.n).card).u⟩ := g2
 show ((b.cards.set (b.auth d.n).card.toNat (Fc b d).1).getD k Ah).m + Af (Do k) (b.auths.set d.n.toNat (Fz b d)) + Af (He (Bt b d).auths k (b.seen false)) ((Aw b.snd d.mv d.n d.sum).1 true).kept = Er k b
 rw [hpx, send_pendC I.sent b.auths k q7, hcap, B5 _ _ _ _ _ hci, hcc]
 have hsh : cardA b.auths d.n = (b.auth d.n).card := rfl
 rw [hsh]
 unfold Er
 by_cases e : (b.auth d.n).card.toNat = k
 ·rw [if_pos e, if_pos (by omega), if_pos (by omega)]
  have : (b.card (b.auth d.n).card).m = (b.cards.getD k Ah).m := by unfold Aa.card; rw [e]
  dsimp only
  rw [this]
  have hz : Fa d.mv d.sum + spentD d.mv d.sum + pendCD d.mv d.sum = 0 := by
   unfold Fa spentD pendCD
   generalize d.mv = mv at *
   rcases eight k1 k2 with rfl | rfl | rfl | rfl | rfl | rfl | rfl | rfl <;> simp <;> omega
  omega
 ·rw [if_neg e, if_neg (by omega), if_neg (by omega)]; omega
def loads (b : Aa) (d : Dd) (k : Nat) : Int := if d.kind = 1 ∧ (By b d).2.1 = 0 ∧ d.n = (k : Int) then d.sum else 0
theorem do_cbal {b : Aa} {d : Dd} (I : Cj b) (k : Nat) (hk : k < b.cards.length) : Er k (By b d).1 = Er k b + loads b d k := by
 by_cases h : (By b d).2.1 = 0
 case neg => rw [Db b d h]; unfold loads; rw [if_neg (fun hp => h hp.2.1)]; omega
 by_cases k1 : d.kind = 1
 ·have e : By b d = two (Ff b d) := by unfold By; rw [if_pos k1]
  unfold loads
  rw [e] at h ⊢
  rw [show Er k (two (Ff b d)).1 = Er k (Ff b d).1 from rfl, load_cbal k h]
  by_cases hk : d.n = (k : Int)
  ·rw [if_pos hk, if_pos ⟨k1, h, hk⟩]
  ·rw [if_neg hk, if_neg (fun hp => hk hp.2.2)]
 have hl : loads b d k = 0 := by unfold loads; rw [if_neg (fun hp => k1 hp.1)]
 rw [hl, Int.add_zero]
 unfold By at h ⊢
 rw [if_neg k1] at h ⊢
 split at h
 ·rename_i e; rw [if_pos e]; exact ask_cbal I k
 rename_i e; rw [if_neg e]
 split at h
 ·rename_i e; rw [if_pos e]; exact move_cbal I k h
 rename_i e; rw [if_neg e]
 split at h
 ·rename_i e; rw [if_pos e]; exact tick_cbal I k hk
 rename_i e; rw [if_neg e]
 split at h
 ·rename_i e; rw [if_pos e]
  unfold two Hd
  repeat' split
  all_goals exact Fk I k rfl rfl rfl rfl
 rename_i e; rw [if_neg e]
 split at h
 ·rename_i e; rw [if_pos e]; exact arrive_cbal I k h
 rename_i e; rw [if_neg e]
 split at h
 ·rename_i e; rw [if_pos e]; exact arrive_cbal I k h
 rename_i e; rw [if_neg e]
 split at h
 ·rename_i e; rw [if_pos e]
  unfold two downB
  repeat' split
  all_goals exact Fk I k rfl rfl rfl rfl
 rename_i e; rw [if_neg e]
 split at h
 ·rename_i e; rw [if_pos e]; exact up_cbal I k hk
 rename_i e; rw [if_neg e]
 split at h
 ·rename_i e; rw [if_pos e]; exact Fk I k rfl rfl rfl rfl
 rename_i e; rw [if_neg e]
 split at h
 ·rename_i e; rw [if_pos e]
  unfold two payB
  repeat' split
  all_goals exact Fk I k rfl rfl rfl rfl
 rename_i e; rw [if_neg e]
open RowKit Gn
structure Lz (X : World) (g Z : Nat) (x : Au.Au) (time : Int) : Prop where
 a8 : Au8 X Z 0 x
 tm : X.cell? ⟨g, 0, none⟩ = some (.int .i64 time)
theorem Ht.time {w : World} {g base : Nat} {lab : Ak} {b : Aa} {tm va : Value} (h : Ht w g base lab b tm va) : w.cell? ⟨g, 0, none⟩ = some (.int .i64 b.time) := by
 obtain ⟨v, cs, ds, H, -⟩ := h
 exact (Ae H.blk).1
theorem lateK_cards {b : Aa} (H : Held b) (k : Nat) : (Ej b k).cards.length = b.cards.length :=
 (fold_late b.time (b.auths.take k) b.cards fun a ha => ⟨(H.auths a (List.mem_of_mem_take ha)).1.2.2.2.2.1.1, (H.auths a (List.mem_of_mem_take ha)).2.2.1⟩).1
structure Auz (X : World) (l : Ak) (z : Nat) (a : Au.Au) : Prop where
 ab : X.heap[z]? = some (Il a)
 al : l z = 0
theorem Auz.on {X Y : World} {l l' : Ak} {z : Nat} {a : Au.Au} (h : Auz X l z a) (hs : Hj X l Y l') : Auz Y l' z a := ⟨hs.at h.ab h.al, hs.zero (lt_of_block h.ab) h.al⟩
theorem glate (g base : Nat) (lab : Ak) (b : Aa) (tm : Value) (w : World) (h : Bu w g base lab b tm) (I : Cj b) : Calls Tryz.prog 133 #[.pointer (some ⟨g, 0, none⟩)] w (Bb w g base lab tm (shutB b, 0)) := by
 obtain ⟨v, cs, ds, H⟩ := h
 obtain ⟨a0, cap0, hv⟩ := H.mem.auths.form
 obtain ⟨-, -, -, -, c4, -⟩ := Ae H.blk
 rw [hv] at c4
 have hfew : b.auths.length ≤ 30 := by have := I.held.few; omega
 have G0 : Ht w g base lab (Ej b 0) tm (.slice a0 b.auths.length cap0) := by rw [lateK_zero]; exact ⟨v, cs, ds, H, hv⟩
 have HI := hid I
 have hend : Hid (Ej b b.auths.length = shutB b) := hid (lateK_end b)
 clear I
 go_enter Tryz.func133, Tryz.ntmps133
 go_wp2_with fail
 go_loopw [12, 3] (fun i e wr => ∃ (k : Nat) (l : Ak), k ≤ b.auths.length ∧ i = .int .i64 k ∧ e = .int .i64 0 ∧ Ht wr g base l (Ej b k) tm (.slice a0 b.auths.length cap0) ∧ Hj w lab wr l) (fun i _ _ => b.auths.length - (intOf i).toNat)
 case atStart => exact ⟨0, lab, Nat.zero_le _, rfl, rfl, G0, Hj.refl _ _⟩
 case round =>
  clear G0 c4 H
  obtain ⟨k, l, hk, rfl, rfl, G1, S1⟩ := hrel
  by_cases hlt : k < b.auths.length
  ·have hlt' : (k : Int) < b.auths.length := by omega
   have hst := hid (late_step HI.out hlt)
   have hal := lateK_auths b k
   have hat := lateK_at b k hlt
   have hcl := lateK_cards HI.out.held k
   have hg := HI.out.held.auths _ (getD_mem' zA hlt)
   have wr1 : Au.wrongA (b.auths.getD k zA) = 0 := Au.wrongA_ok.2 ⟨hg.1, hg.2.1⟩
   have wr2 : Au.wrongA (Au.lateA (b.auths.getD k zA) b.time) = 0 := Au.wrongA_ok.2 ⟨hg.1, hg.2.1⟩
   have hcc : (Au.lateA (b.auths.getD k zA) b.time).card < (Ej b k).cards.length := by rw [hcl]; exact hg.2.2.1
   have GB : ∀ (X : World) (l' : Ak), Ht X g base l' (Ej b k) tm (.slice a0 b.auths.length cap0) → Calls Tryz.prog 130 #[.pointer (some ⟨g, 0, none⟩), .int .i64 (k : Int), Au.av (Au.lateA (b.auths.getD k zA) b.time)] X (DoneV X g base l' tm (.slice a0 b.auths.length cap0) (Ej b (k + 1), 0)) := fun X l' hX => by
    have := gbecomeV g base l' (Ej b k) tm _ k (Au.lateA (b.auths.getD k zA) b.time) X hX (by rw [hal]; exact hlt) wr2 (by rw [hat]; exact wr1) hcc
    rw [hst.out] at this
    exact this
   have GL : ∀ X : World, Calls Tryz.prog 159 #[Au.av (b.auths.getD k zA), .int .i64 b.time] X fun e w' => e = .returned (Au.av (Au.lateA (b.auths.getD k zA) b.time)) ∧ Below X.heap.size X w' := fun X => Au.late_any _ _ X
   obtain ⟨v1, cs1, ds1, H1, hv1⟩ := G1
   obtain ⟨ga, cap, A⟩ := H1.mem.authAt (k := k) (by rw [hal]; exact hlt)
   have A8 := A.cells
   rw [hat] at A8
   have hve := hv1.symm.trans A.val
   rw [hal] at hve
   obtain ⟨rfl, -, rfl⟩ := Value.slice.inj hve
   have G1 := H1.goesV hv1
   obtain ⟨x, hx⟩ : ∃ x, Hid (x = b.auths.getD k zA) := ⟨_, rfl⟩
   obtain ⟨y, hy⟩ : ∃ y, Hid (y = Au.lateA (b.auths.getD k zA) b.time) := ⟨_, rfl⟩
   rw [← hy.out] at GB GL
   rw [← hx.out] at GL A8
   unfold Au.av at GB GL
   unfold DoneV at GB
   have htm := G1.time
   have hT : Hid ((Ej b k).time = b.time) := hid rfl
   rw [hT.out] at htm
   have hT1 : Hid ((Ej b (k + 1)).time = b.time) := hid rfl
   obtain ⟨q0, q1, q2, q3, q4, q5, q6, q7⟩ := A8.all
   have hb0 := below_alloc wr (Il x)
   have G2 := G1.below hb0
   have S2 := S1.trans (Ac (lab := l) hb0)
   have Z2 : Auz (wr.alloc (Il x)) (relab l wr.heap.size 0) wr.heap.size x := ⟨heap_alloc_at _ _ _ rfl, Ar (Nat.le_refl _)⟩
   have hk1 : k + 1 ≤ b.auths.length := hlt
   clear A A8 H1 hg wr1 wr2 hcc hat hcl hst hv1 hve hb0 G1 S1
   unfold Il at G2 S2 Z2
   obtain ⟨r, hr⟩ : ∃ r, Hid (r = Ej b (k + 1)) := ⟨_, rfl⟩
   rw [← hr.out] at GB hT1
   go_upto_region 5 with fail
   generalize wr.alloc (.cells #[.int .i64 x.card, .int .i64 x.shop, .int .i64 x.sum, .int .i64 x.cap, .int .i64 x.ref, .int .i64 x.dis, .int .i64 x.till, .bool x.shut] 66) = W at *
   have htW := G2.time
   rw [hT.out] at htW
   generalize wr.heap.size = Z at *
   clear q0 q1 q2 q3 q4 q5 q6 q7 htm hal
   have hLz : Lz W.drew g Z x b.time := ⟨(Bs (w := W.drew) Z2.ab), htW⟩
   refine wp_region_held_drew (S := (fun X => Lz X g Z x b.time)) (by kernel_rfl) (hLz) (fun hS => ?_)
   refine tk 0 (.int .i64 0) hS ?_ ?_
   ·intro w' _; go_simp
   refine tk 1 (.pointer (some ⟨g, 0, none⟩)) hS ?_ ?_
   ·intro w' _; go_simp
   refine tk 2 (.int .i64 (k : Int)) hS ?_ ?_
   ·intro w' _; go_simp
   refine tk 3 (.agg #[.int .i64 x.card, .int .i64 x.shop, .int .i64 x.sum, .int .i64 x.cap, .int .i64 x.ref, .int .i64 x.dis, .int .i64 x.till, .bool x.shut]) hS ?_ ?_
   ·intro w' hS'; obtain ⟨e0, e1, e2, e3, e4, e5, e6, e7⟩ := hS'.a8.all; have t0 := hS'.tm; go_simp
   try simp only [Act.put]
   refine tk 4 (.pointer (some ⟨g, 0, none⟩)) hS ?_ ?_
   ·intro w' _; go_simp
   refine tk 5 (.pointer (some ⟨g, 0, none⟩)) hS ?_ ?_
   ·intro w' _; go_simp
   refine tk 6 (.pointer (some ⟨g, 0, none⟩)) hS ?_ ?_
   ·intro w' _; go_simp
   refine tk 7 (.pointer (some ⟨g, 0, none⟩)) hS ?_ ?_
   ·intro w' _; go_simp
   try simp only [Act.put]
   refine tk 8 (.int .i64 b.time) hS ?_ ?_
   ·intro w' hS'; obtain ⟨e0, e1, e2, e3, e4, e5, e6, e7⟩ := hS'.a8.all; have t0 := hS'.tm; go_simp
   try simp only [Act.put]
   refine rd 9 (.cons rfl (fun K hK => ?_) .nil)
   go_simp
   refine (GL _).mono ?_
   rintro e w5 ⟨rfl, hb5⟩
   have G5 := G2.drew.below hb5
   have S5 := S2.drew.trans (Ac hb5)
   have Z5 := Z2.on ((Hj.refl W _).drew.trans (Ac hb5))
   have t5 := G5.time
   rw [hT.out] at t5
   go_simp
   refine hK.out _ _ (⟨Bs Z5.ab, t5⟩) (fun hS => ?_)
   clear hK K
   try simp only [nrm, Act.put]
   refine rd 10 (.cons rfl (fun K hK => ?_) .nil)
   go_simp
   refine (GB _ _ G5).mono ?_
   rintro e w6 ⟨rfl, lab6, G6, S6⟩
   have Z6 := Z5.on S6
   have t6 := G6.time
   rw [hT1.out] at t6
   go_simp
   refine hK.out _ _ (⟨Bs Z6.ab, t6⟩) (fun hS => ?_)
   clear hK K
   try simp only [nrm, Act.put]
   refine rd 11 (.cons rfl (fun K hK => ?_) .nil)
   go_simp
   have Z7 := Z6.on (Ac (below_alloc w6 (.cells #[.int .i64 0, .int .i64 0] 45)))
   have G7 := G6.below (below_alloc w6 (.cells #[.int .i64 0, .int .i64 0] 45))
   have S7 := (S5.trans S6).trans (Ac (below_alloc w6 (.cells #[.int .i64 0, .int .i64 0] 45)))
   have t7 := G7.time
   rw [hT1.out] at t7
   refine hK.out _ _ (⟨Bs Z7.ab, t7⟩) (fun hS => ?_)
   clear hK K
   try simp only [nrm, Act.put]
   refine rd 12 (.cons rfl (fun K hK => ?_) .nil)
   go_simp
   refine (or_two 0 0 _ w6).mono ?_
   rintro e w8 ⟨rfl, rfl⟩
   rw [orE_zero]
   go_simp
   refine hK.out _ _ (⟨Bs Z7.ab, t7⟩) (fun hS => ?_)
   clear hK K
   try simp only [nrm, Act.put]
   refine rd 13 (.cons rfl (fun K hK => ?_) .nil)
   go_simp
   refine hK.out _ _ (⟨Bs Z7.ab, t7⟩) (fun hS => ?_)
   clear hK K
   try simp only [nrm, Act.put]
   refine wpAnyH_done (by kernel_rfl) ?_ _
   go_wp2_with fail
   go_roundw
   case rel => rw [hr.out] at G7; exact ⟨k + 1, _, hk1, by go_num, rfl, G7, S7⟩
   case measure => simp [intOf]; omega
  ·have hke : k = b.auths.length := by omega
   subst hke
   rw [hend.out] at G1
   go_wp2_with fail
   go_ret
   exact ⟨rfl, _, G1.goes, S1⟩
theorem gtick (g base : Nat) (lab : Ak) (b : Aa) (tm : Value) (d : Dd) (w : World) (h : Bu w g base lab b tm) (I : Cj b) : Calls Tryz.prog 99 #[.pointer (some ⟨g, 0, none⟩), .int .i64 d.sum] w (Bb w g base lab tm (Fs b d)) := by
 obtain ⟨v, cs, ds, H⟩ := h
 have t0 := I.held.time0
 have t1 := I.held.time1
 have c0 := (Ae H.blk).1
 have c1 := (Ae H.blk).2.1
 have f0 := Bp H.blk 0
 generalize hn : d.sum = n at *
 by_cases q1 : n < 0 ∨ 1000000 - b.time < n
 ·have hE : Hid (Fs b d = (b, 3)) := hid (by unfold Fs; rw [hn, if_pos (by omega)])
  by_cases q2 : n < 0
  ·go_enter Tryz.func99, Tryz.ntmps99
   go_wp2_with fail
   go_ret
   unfold Bb
   rw [hE.out]
   exact ⟨rfl, _, H.goes, Hj.refl _ _⟩
  ·have q3 : 1000000 - b.time < n := by omega
   have q2' : ¬ (n < 0) := by omega
   go_enter Tryz.func99, Tryz.ntmps99
   go_wp2_with fail
   go_ret
   unfold Bb
   rw [hE.out]
   exact ⟨rfl, _, H.goes, Hj.refl _ _⟩
 ·have q2' : ¬ (n < 0) := by omega
  have q3 : ¬ (1000000 - b.time < n) := by omega
  have hadd : IntKind.i64.wrap (b.time + n) = b.time + n := wrap64' (by omega) (by omega)
  have H1 := H.put1 (b' := { b with time := b.time + n }) (H.mem.plain (b.time + n) b.down b.seen) (i := 0) (x := .int .i64 (b.time + n)) rfl
  have S1 := Ee (w := w) H.lb 0 (.int .i64 (b.time + n))
  have d1 := (Ae H1.blk).2.1
  have I1 : Cj { b with time := b.time + n } := by have := tick_mid (d := d) I (by rw [hn]; omega); rw [hn] at this; exact this
  have hL := glate g base _ _ tm _ H1.goes I1
  unfold Bb at hL
  cases hd : b.down with
  | true =>
   have hE : Hid (Fs b d = ({ b with time := b.time + n }, 0)) := hid (by unfold Fs; rw [hn, if_neg (by omega), if_pos hd])
   rw [hd] at d1
   go_enter Tryz.func99, Tryz.ntmps99
   go_upto_region 4 with fail
   generalize w.setCell ⟨g, 0, none⟩ (.int .i64 (b.time + n)) = W at *
   go_wp2_with fail
   go_ret
   unfold Bb
   rw [hE.out]
   exact ⟨rfl, _, H1.goes, S1⟩
  | false =>
   have hE : Hid (Fs b d = (shutB { b with time := b.time + n }, 0)) := hid (by unfold Fs; rw [hn, if_neg (by omega), if_neg (by rw [hd]; simp)])
   rw [hd] at d1
   go_enter Tryz.func99, Tryz.ntmps99
   go_upto_region 4 with fail
   generalize w.setCell ⟨g, 0, none⟩ (.int .i64 (b.time + n)) = W at *
   go_wp2_with (go_at_call 133; refine hL.mono ?_; rintro e w5 ⟨rfl, lab5, G5, S5⟩)
   go_ret
   unfold Bb
   rw [hE.out]
   exact ⟨rfl, _, G5, S1.trans S5⟩
