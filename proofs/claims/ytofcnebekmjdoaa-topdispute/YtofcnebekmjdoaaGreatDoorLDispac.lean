import Derived.Test.YtofcnebekmjdoaaGreatDoorKbu
import Derived.Test.YtofcnebekmjdoaaGreatDoorLDispab
set_option maxHeartbeats 4000000
set_option maxRecDepth 100000
namespace Go.Proofs.YtofcnebekmjdoaaGreatDoor.Bn
open Go.Proofs.YtofcnebekmjdoaaGreatDoor
def StaysC (b x : Bank) : Prop := b.auths.length ≤ x.auths.length ∧ ∀ n : Nat, n < b.auths.length → (x.auths.getD n zA).card = (b.auths.getD n zA).card
theorem staysC_same {b x : Bank} (h : x.auths = b.auths) : StaysC b x := by unfold StaysC; rw [h]; exact ⟨Nat.le_refl _, fun _ _ => rfl⟩
theorem staysC_append {b x : Bank} {l : List Au.Au} (h : x.auths = b.auths ++ l) : StaysC b x := by
 unfold StaysC
 rw [h]
 refine ⟨by simp, fun n hn => ?_⟩
 simp [List.getD, List.getElem?_append_left hn]
theorem step_card (a : Au.Au) (k n : Int) : (Au.step a k n).card = a.card := by
 unfold Au.step
 repeat' split
 all_goals rfl
theorem staysC_set {b x : Bank} {i : Nat} {k n : Int} (hi : i < b.auths.length) (h : x.auths = b.auths.set i (Au.step (b.auths.getD i zA) k n)) : StaysC b x := by
 unfold StaysC
 rw [h]
 refine ⟨by simp, fun j hj => ?_⟩
 rw [getD_set _ _ _ _ _ hi]
 split
 ·rename_i e; subst e; exact step_card _ _ _
 ·rfl
theorem staysC_shut (b : Bank) : StaysC b (shutB b) := by
 refine ⟨by simp [shutB], fun n hn => ?_⟩
 show ((b.auths.map fun a => Au.lateA a b.time).getD n zA).card = _
 simp [List.getD, hn, Au.lateA]
theorem pendC_those (l : List Au.Au) (k : Nat) {s came : Int} (h : s ≤ came) (L : List Po.Tr) : sumOn (pendC l k came) (Po.those s L) = sumOn (pendC l k came) L := by
 unfold Po.those
 induction L with
 | nil => rfl
 | cons t r ih =>
  by_cases e : s < t.n
  ·rw [List.filter_cons_of_pos (by simpa using e)]
   simp only [sumOn, ih]
  ·rw [List.filter_cons_of_neg (by simpa using e), ih]
   simp only [sumOn]
   unfold pendC
   rw [if_neg (by omega)]; omega
theorem pendC_more (l : List Au.Au) (k : Nat) {s : Po.Se} (R : Po.Right s) {t : Po.Tr} (ht : t ∈ s.kept) {came : Int} (hn : t.n = came + 1) : sumOn (pendC l k (came + 1)) s.kept = sumOn (pendC l k came) s.kept - gives l k t := by
 rw [sum_one (right_rise R) ht (f := pendC l k (came + 1)) (g := pendC l k came)]
 ·unfold pendC
  rw [if_neg (by omega), if_pos (by omega)]; omega
 ·intro x _ hx
  unfold pendC
  by_cases h1 : came < x.n
  ·rw [if_pos h1, if_pos (by omega)]
  ·rw [if_neg h1, if_neg (by omega)]
theorem pendC_stays {b x : Bank} (h : StaysC b x) (k : Nat) (came : Int) {L : List Po.Tr} (hL : ∀ t ∈ L, 0 ≤ t.a ∧ t.a < b.auths.length) : sumOn (pendC x.auths k came) L = sumOn (pendC b.auths k came) L :=
 sumOn_congr fun t ht => by
  have := h.2 t.a.toNat (by have := hL t ht; omega)
  unfold pendC gives cardA
  rw [this]
theorem cbal_still {b x : Bank} (I : Inv b) (k : Nat) (h1 : (x.cards.getD k zeroC).m = (b.cards.getD k zeroC).m) (h2 : sumOn (spentBy k) x.auths = sumOn (spentBy k) b.auths) (h3 : StaysC b x) (h4 : x.seen false = b.seen false) (h5 : (x.snd true).kept = (b.snd true).kept) : cbal k x = cbal k b := by
 unfold cbal
 rw [h1, h2, h4, h5, pendC_stays h3 k _ (kept_in I true)]
theorem cbal_same {b x : Bank} (I : Inv b) (k : Nat) (h1 : x.cards = b.cards) (h2 : x.auths = b.auths) (h4 : x.seen false = b.seen false) (h5 : (x.snd true).kept = (b.snd true).kept) : cbal k x = cbal k b :=
 cbal_still I k (by rw [h1]) (by rw [h2]) (staysC_same h2) h4 h5
theorem load_cbal {b : Bank} {d : Dd} (k : Nat) (h : (loadB b d).2 = 0) : cbal k (loadB b d).1 = cbal k b + (if d.n = (k : Int) then d.sum else 0) := by
 unfold loadB at h ⊢
 split at h
 ·cases h
 rename_i h1
 rw [if_neg h1]
 split at h
 ·cases h
 rename_i h2
 rw [if_neg h2]
 split at h
 ·rename_i h3; exact absurd h h3
 rename_i h3
 rw [if_neg h3]
 split at h
 ·rename_i h4; exact absurd h h4
 rename_i h4
 rw [if_neg h4]
 obtain ⟨-, g2, -⟩ := right_of_shift (Decidable.not_not.1 h3)
 show ((b.cards.set d.n.toNat (shiftC (b.card d.n) 0 d.sum).1).getD k zeroC).m + _ + _ = cbal k b + _
 rw [getD_set _ _ _ _ _ (by omega), g2]
 unfold cbal
 by_cases e : d.n.toNat = k
 ·rw [if_pos e, if_pos (by omega)]
  have : (b.card d.n).m = (b.cards.getD k zeroC).m := by unfold Bank.card; rw [e]
  dsimp only
  rw [this]; omega
 ·rw [if_neg e, if_neg (by omega)]; dsimp only; omega
theorem ask_cbal {b : Bank} {d : Dd} (I : Inv b) (k : Nat) : cbal k (askB b d).1 = cbal k b := by
 unfold askB askDown askUp
 split
 ·rfl
 rename_i h1
 split
 ·split
  ·rfl
  ·split
   ·rfl
   ·exact cbal_same I k rfl rfl rfl rfl
 ·split
  ·rfl
  ·rename_i h2
   split
   ·rfl
   ·split
    ·rfl
    ·rename_i h4
     obtain ⟨n1, -⟩ := newA_zero (Decidable.not_not.1 h2)
     obtain ⟨-, -, -, -, -, c2, -⟩ := allow_zero (Decidable.not_not.1 h4)
     refine cbal_still I k ?_ ?_ (staysC_append rfl) rfl rfl
     ·show ((b.cards.set d.n.toNat _).getD k zeroC).m = _
      rw [getD_set _ _ _ _ _ (by omega)]
      split
      ·rename_i e; subst e; rw [c2]; rfl
      ·rfl
     ·show sumOn (spentBy k) (b.auths ++ [_]) = _
      rw [sumOn_append, sumOn_one, n1]
      unfold spentBy; dsimp only
      split <;> omega
theorem shut_cbal {b : Bank} (I : Inv b) (k : Nat) (hk : k < b.cards.length) : cbal k (shutB b) = cbal k b := by
 obtain ⟨-, l2⟩ := fold_late b.time b.auths b.cards fun a ha => ⟨(I.held.auths a ha).1.2.2.2.2.1.1, (I.held.auths a ha).2.2.1⟩
 refine cbal_still I k ?_ ?_ (staysC_shut b) rfl rfl
 ·show ((b.auths.foldl (lateC b.time) b.cards).getD k zeroC).m = _
  rw [l2 k hk]
 ·show sumOn (spentBy k) (b.auths.map _) = _
  rw [sumOn_map]; rfl
theorem tick_cbal {b : Bank} {d : Dd} (I : Inv b) (k : Nat) (hk : k < b.cards.length) : cbal k (tickB b d).1 = cbal k b := by
 unfold tickB
 split
 ·rfl
 ·rename_i h1
  split
  ·exact cbal_same I k rfl rfl rfl rfl
  ·exact (shut_cbal (tick_mid I h1) k hk).trans (cbal_same I k rfl rfl rfl rfl)
theorem up_cbal {b : Bank} (I : Inv b) (k : Nat) (hk : k < b.cards.length) : cbal k (upB b).1 = cbal k b := by
 unfold upB
 split
 ·rename_i h1
  have hf : ∀ x ∈ b.stand.adv, St.Fits x b.stand.used.length := I.held.stand.adv.each
  obtain ⟨l1, l2⟩ := fold_force b.stand.adv b.cards fun x hx => by have := hf x hx; rw [I.held.standN] at this; exact ⟨this.1, this.2.1⟩
  refine (shut_cbal (up_mid I h1) k (by show k < (b.stand.adv.foldl forceL b.cards).length; rw [l1]; exact hk)).trans ?_
  refine cbal_still I k ?_ ?_ (staysC_append rfl) rfl rfl
  ·show ((b.stand.adv.foldl forceL b.cards).getD k zeroC).m = _
   rw [l2 k hk]
  ·show sumOn (spentBy k) (b.auths ++ b.stand.adv.map advA) = _
   rw [sumOn_append, sumOn_map, sumOn_zero (f := fun x => spentBy k (advA x)) (fun x _ => by unfold spentBy advA; dsimp only; split <;> omega)]; omega
 ·rfl
theorem comes_cbal {b : Bank} {i : Bool} {t : Po.Tr} (I : Inv b) (k : Nat) (ht : t ∈ (b.snd (!i)).kept) (hn : t.n = b.seen i + 1) (h : (comes b i t).2 = 0) : cbal k (comes b i t).1 = cbal k b := by
 have hin := kept_in I (!i) t ht
 obtain ⟨r1, -, r3, -⟩ := I.held.auth hin.1 hin.2
 have hc0 : 0 ≤ (b.auth t.a).card := r1.2.2.2.2.1.1
 have hci : (b.auth t.a).card.toNat < b.cards.length := by omega
 have hch : cardA b.auths t.a = (b.auth t.a).card := rfl
 unfold comes at h ⊢
 cases i with
 | true =>
  have hse : upd b.seen true (b.seen true + 1) false = b.seen false := upd_other b.seen true _
  rcases I.sent.kind0 t ht with hk | hk
  ·rw [if_pos hk] at h ⊢
   split at h
   ·rename_i q; exact absurd h q
   rename_i q
   rw [if_neg q]
   exact cbal_same I k rfl rfl hse rfl
  ·rw [if_neg (by omega), if_neg (by omega), if_pos hk] at h ⊢
   split at h
   ·rename_i q; exact absurd h q
   rename_i q
   rw [if_neg q]
   exact cbal_same I k rfl rfl hse rfl
 | false =>
  have hp := pendC_more b.auths k (I.sent.right true) ht hn
  have hse : upd b.seen false (b.seen false + 1) false = b.seen false + 1 := upd_same _ _ _
  have hk := I.sent.kind1 t ht
  rw [if_neg (by omega), if_pos hk] at h ⊢
  split at h
  ·rename_i q; exact absurd h q
  rename_i q
  rw [if_neg q]
  split at h
  ·rename_i q2; exact absurd h q2
  rename_i q2
  rw [if_neg q2]
  obtain ⟨-, g2, -⟩ := right_of_shift (Decidable.not_not.1 q)
  show ((b.cards.set (b.auth t.a).card.toNat (shiftC (b.card (b.auth t.a).card) 0 t.s).1).getD k zeroC).m + sumOn (spentBy k) b.auths + sumOn (pendC b.auths k (upd b.seen false (b.seen false + 1) false)) (b.snd true).kept = cbal k b
  rw [hse, hp, getD_set _ _ _ _ _ hci, g2]
  unfold cbal gives
  rw [hch]
  by_cases e : (b.auth t.a).card.toNat = k
  ·rw [if_pos e, if_pos (by omega)]
   have : (b.card (b.auth t.a).card).m = (b.cards.getD k zeroC).m := by unfold Bank.card; rw [e]
   dsimp only
   rw [this]; omega
  ·rw [if_neg e, if_neg (by omega)]; omega
theorem arrive_cbal {b : Bank} {d : Dd} {lost : Bool} (I : Inv b) (k : Nat) (h : (arriveB b d lost).2 = 0) : cbal k (arriveB b d lost).1 = cbal k b := by
 unfold arriveB at h ⊢
 by_cases h1 : d.n < 0 ∨ 1 < d.n
 ·rw [if_pos h1]
 rw [if_neg h1] at h ⊢
 generalize sideOf d.n = i at *
 cases hw : b.way i with
 | nil => rfl
 | cons p r =>
  rw [hw] at h
  dsimp only at h ⊢
  cases lost with
  | true => rw [if_pos rfl]; exact cbal_same (x := gone b i) I k rfl rfl rfl rfl
  | false =>
   rw [if_neg (by simp)] at h ⊢
   have hp := I.sent.ways i p (by rw [hw]; exact List.mem_cons_self)
   unfold arriveAt at h ⊢
   by_cases h2 : 0 ≤ p.seen
   ·rw [if_pos h2] at h ⊢
    split at h
    ·rename_i h3; exact absurd h h3
    rename_i h3
    rw [if_neg h3]
    obtain ⟨-, -, -, hb⟩ := backS_zero (Decidable.not_not.1 h3)
    have hn : p.seen ≤ b.seen (!i) := by
     rcases hp with ⟨g1, -⟩ | ⟨-, g2⟩
     ·omega
     ·exact g2
    show (b.cards.getD k zeroC).m + sumOn (spentBy k) b.auths + sumOn (pendC b.auths k (b.seen false)) (upd b.snd i (Po.backS (b.snd i) p.seen).1 true).kept = cbal k b
    unfold cbal
    cases i with
    | false =>
     have : upd b.snd false (Po.backS (b.snd false) p.seen).1 true = b.snd true := upd_other b.snd false _
     rw [this]
    | true =>
     rw [upd_same, hb]
     show _ + sumOn _ (Po.those p.seen (b.snd true).kept) = _
     have hn2 : p.seen ≤ b.seen false := hn
     rw [pendC_those _ _ hn2]
   ·rw [if_neg h2] at h ⊢
    by_cases h3 : p.t.n ≠ b.seen i + 1 ∨ 1000000 ≤ b.seen i
    ·rw [if_pos h3]; exact cbal_same I k rfl rfl rfl rfl
    ·rw [if_neg h3] at h ⊢
     refine comes_cbal I k ?_ (by omega) h
     rcases hp with ⟨-, g1 | g1⟩ | ⟨g1, -⟩
     ·omega
     ·exact g1
     ·omega
def spentD (k n : Int) : Int := if k = 2 ∨ k = 3 ∨ k = 8 then n else if k = 5 ∨ k = 6 then -n else 0
theorem step_spent {a : Au.Au} {k n : Int} (h1 : 1 ≤ k) (h2 : k ≤ 8) : (Au.step a k n).cap - (Au.step a k n).ref - (Au.step a k n).dis = a.cap - a.ref - a.dis + spentD k n := by
 unfold spentD
 rcases eight h1 h2 with rfl | rfl | rfl | rfl | rfl | rfl | rfl | rfl <;> simp [Au.step] <;> omega
def pendCD (k n : Int) : Int := if k = 5 then n else 0
theorem send_pendC {b : Bank} (S : Sent b) (l : List Au.Au) (k : Nat) {kind auth n : Int} (h : (sendBy b.snd kind auth n).2 = 0) :
  sumOn (pendC l k (b.seen false)) ((sendBy b.snd kind auth n).1 true).kept = sumOn (pendC l k (b.seen false)) (b.snd true).kept + (if cardA l auth = (k : Int) then pendCD kind n else 0) := by
 have hoth : ∀ x, upd b.snd false x true = b.snd true := fun x => upd_other b.snd false x
 unfold sendBy at h ⊢
 unfold pendCD
 by_cases k1 : kind = 2 ∨ kind = 3
 ·rw [if_pos k1] at h ⊢
  dsimp only
  rw [hoth, if_neg (show ¬ kind = 5 by omega)]; simp
 rw [if_neg k1] at h ⊢
 by_cases k2 : kind = 5
 ·rw [if_pos k2] at h ⊢
  dsimp only
  rw [upd_same, if_pos k2]
  obtain ⟨p1, -⟩ := put_zero h
  rw [p1]
  show sumOn _ ((b.snd true).kept ++ [Po.nextT (b.snd true) ⟨0, 2, auth, n⟩]) = _
  rw [sumOn_append, sumOn_one]
  have hc : b.seen false < (Po.nextT (b.snd true) ⟨0, 2, auth, n⟩).n := by
   have := S.seen1 false
   show _ < (b.snd true).sent + 1
   simp only [Bool.not_false] at this; omega
  have : pendC l k (b.seen false) (Po.nextT (b.snd true) ⟨0, 2, auth, n⟩) = (if cardA l auth = (k : Int) then n else 0) := by unfold pendC; rw [if_pos hc]; rfl
  rw [this]
 rw [if_neg k2] at h ⊢
 by_cases k3 : kind = 7
 ·rw [if_pos k3] at h ⊢
  dsimp only
  rw [hoth, if_neg (show ¬ kind = 5 by omega)]; simp
 rw [if_neg k3] at h ⊢
 rw [if_neg (show ¬ kind = 5 by omega)]; simp
theorem move_cbal {b : Bank} {d : Dd} (I : Inv b) (k : Nat) (h : (moveD b d).2 = 0) : cbal k (moveD b d).1 = cbal k b := by
 unfold moveD at h ⊢
 split at h
 ·cases h
 rename_i q1
 rw [if_neg q1]
 split at h
 ·cases h
 rename_i q2
 rw [if_neg q2]
 split at h
 ·rename_i q; exact absurd h q
 rename_i q3
 rw [if_neg q3]
 split at h
 ·cases h
 rename_i q4
 rw [if_neg q4]
 split at h
 ·rename_i q; exact absurd h q
 rename_i q5
 rw [if_neg q5]
 split at h
 ·rename_i q; exact absurd h q
 rename_i q6
 rw [if_neg q6]
 split at h
 ·rename_i q; exact absurd h q
 rename_i q7
 rw [if_neg q7]
 split at h
 ·cases h
 rename_i q8
 rw [if_neg q8]
 replace q3 := Au.mvErr_zero.1 (Decidable.not_not.1 q3)
 replace q7 : (sendBy b.snd d.mv d.n d.sum).2 = 0 := Decidable.not_not.1 q7
 obtain ⟨-, g2, -⟩ := right_of_shift (Decidable.not_not.1 q5)
 have hn : d.n.toNat < b.auths.length := by omega
 obtain ⟨r1, -, r3, -⟩ := I.held.auth (k := d.n) (by omega) (by omega)
 have hc0 : 0 ≤ (b.auth d.n).card := r1.2.2.2.2.1.1
 have hci : (b.auth d.n).card.toNat < b.cards.length := by omega
 have k1 := q3.2.2.1
 have k2 := q3.2.2.2.1
 have hst : StaysC b (moveAll b d) := staysC_set hn rfl
 have hpx : sumOn (pendC (moveAll b d).auths k (b.seen false)) ((sendBy b.snd d.mv d.n d.sum).1 true).kept = sumOn (pendC b.auths k (b.seen false)) ((sendBy b.snd d.mv d.n d.sum).1 true).kept := by
  obtain ⟨w0, -⟩ := send_zero (x := moveAll b d) I.sent q7 (by omega) rfl rfl rfl (by simp [moveAll])
  refine pendC_stays hst k _ fun t ht => ?_
  have h1 := (right_mem (w0.right true) ht).2.1
  unfold Po.far at h1
  have h2 := w0.auths true t ht
  have h3 : (moveAll b d).auths.length = b.auths.length := by simp [moveAll]
  exact ⟨by omega, by omega⟩
 have hcap : sumOn (spentBy k) (b.auths.set d.n.toNat (aft b d)) = sumOn (spentBy k) b.auths + (if (b.auth d.n).card = (k : Int) then spentD d.mv d.sum else 0) := by
  rw [sumOn_set _ _ _ _ zA hn]
  have e1 : (aft b d).card = (b.auth d.n).card := step_card _ _ _
  have e2 : (aft b d).cap - (aft b d).ref - (aft b d).dis = (b.auth d.n).cap - (b.auth d.n).ref - (b.auth d.n).dis + spentD d.mv d.sum := step_spent k1 k2
  have e3 : spentBy k (b.auths.getD d.n.toNat zA) = spentBy k (b.auth d.n) := rfl
  rw [e3]
  unfold spentBy
  rw [e1, e2]
  split <;> omega
 have hcc : (cardAft b d).1 = ⟨(b.card (b.auth d.n).card).m + cardBy d.mv d.sum, (b.card (b.auth d.n).card).h + (Au.holdA (aft b d) - Au.holdA (b.auth d.n)), (b.card (b.auth d.n).card).p, (b.card (b.auth d.n).card).u⟩ := g2
 show ((b.cards.set (b.auth d.n).card.toNat (cardAft b d).1).getD k zeroC).m + sumOn (spentBy k) (b.auths.set d.n.toNat (aft b d)) + sumOn (pendC (moveAll b d).auths k (b.seen false)) ((sendBy b.snd d.mv d.n d.sum).1 true).kept = cbal k b
 rw [hpx, send_pendC I.sent b.auths k q7, hcap, getD_set _ _ _ _ _ hci, hcc]
 have hsh : cardA b.auths d.n = (b.auth d.n).card := rfl
 rw [hsh]
 unfold cbal
 by_cases e : (b.auth d.n).card.toNat = k
 ·rw [if_pos e, if_pos (by omega), if_pos (by omega)]
  have : (b.card (b.auth d.n).card).m = (b.cards.getD k zeroC).m := by unfold Bank.card; rw [e]
  dsimp only
  rw [this]
  have hz : cardBy d.mv d.sum + spentD d.mv d.sum + pendCD d.mv d.sum = 0 := by
   unfold cardBy spentD pendCD
   generalize d.mv = mv at *
   rcases eight k1 k2 with rfl | rfl | rfl | rfl | rfl | rfl | rfl | rfl <;> simp <;> omega
  omega
 ·rw [if_neg e, if_neg (by omega), if_neg (by omega)]; omega
def loads (b : Bank) (d : Dd) (k : Nat) : Int := if d.kind = 1 ∧ (doB b d).2.1 = 0 ∧ d.n = (k : Int) then d.sum else 0
theorem do_cbal {b : Bank} {d : Dd} (I : Inv b) (k : Nat) (hk : k < b.cards.length) : cbal k (doB b d).1 = cbal k b + loads b d k := by
 by_cases h : (doB b d).2.1 = 0
 case neg => rw [doB_refused b d h]; unfold loads; rw [if_neg (fun hp => h hp.2.1)]; omega
 by_cases k1 : d.kind = 1
 ·have e : doB b d = two (loadB b d) := by unfold doB; rw [if_pos k1]
  unfold loads
  rw [e] at h ⊢
  rw [show cbal k (two (loadB b d)).1 = cbal k (loadB b d).1 from rfl, load_cbal k h]
  by_cases hk : d.n = (k : Int)
  ·rw [if_pos hk, if_pos ⟨k1, h, hk⟩]
  ·rw [if_neg hk, if_neg (fun hp => hk hp.2.2)]
 have hl : loads b d k = 0 := by unfold loads; rw [if_neg (fun hp => k1 hp.1)]
 rw [hl, Int.add_zero]
 unfold doB at h ⊢
 rw [if_neg k1] at h ⊢
 split at h
 ·rename_i e; rw [if_pos e]; exact ask_cbal I k
 rename_i e; rw [if_neg e]
 split at h
 ·rename_i e; rw [if_pos e]; exact move_cbal I k h
 rename_i e; rw [if_neg e]
 split at h
 ·rename_i e; rw [if_pos e]; exact tick_cbal I k hk
 rename_i e; rw [if_neg e]
 split at h
 ·rename_i e; rw [if_pos e]
  unfold two sendB
  repeat' split
  all_goals exact cbal_same I k rfl rfl rfl rfl
 rename_i e; rw [if_neg e]
 split at h
 ·rename_i e; rw [if_pos e]; exact arrive_cbal I k h
 rename_i e; rw [if_neg e]
 split at h
 ·rename_i e; rw [if_pos e]; exact arrive_cbal I k h
 rename_i e; rw [if_neg e]
 split at h
 ·rename_i e; rw [if_pos e]
  unfold two downB
  repeat' split
  all_goals exact cbal_same I k rfl rfl rfl rfl
 rename_i e; rw [if_neg e]
 split at h
 ·rename_i e; rw [if_pos e]; exact up_cbal I k hk
 rename_i e; rw [if_neg e]
 split at h
 ·rename_i e; rw [if_pos e]; exact cbal_same I k rfl rfl rfl rfl
 rename_i e; rw [if_neg e]
 split at h
 ·rename_i e; rw [if_pos e]
  unfold two payB
  repeat' split
  all_goals exact cbal_same I k rfl rfl rfl rfl
 rename_i e; rw [if_neg e]
open Go.RowKit Go.Proofs.YtofcnebekmjdoaaGreatDoor.Gn
theorem Hand.same {w : World} {g base : Nat} {lab : Lab} {b : Bank} {v : Vs} {cs : List CV} {ds : List DV} {tm : Value} (H : Hand w g base lab b v cs ds tm) : Goes w g base lab b tm := H.goes
open Go.RowKit Go.Proofs.YtofcnebekmjdoaaGreatDoor.Gn
variable {α : Type}
theorem Shown.below {w w' : World} {b : Bank} {v : Vs} {cs : List CV} {ds : List DV} (h : Shows w b v cs ds) (hb : Below w.heap.size w w') : Shows w' b v cs ds :=
 h.go hb.size (fun _ _ => rfl) fun k hk _ => hb.block k hk
open Go.RowKit Go.Proofs.YtofcnebekmjdoaaGreatDoor.Gn Go.Maps
theorem lies_blk {α : Type} {K : Kind α} {w : World} {b : Nat} {L : List α} {t : TypeId} {cs : Array Value} (h : w.heap[b]? = some (.cells cs t)) (hc : cs.toList = K.flat L) (hl : L.length ≤ maxLen) (c : Nat) : Gn.Lies K w (some ⟨b, 0, none⟩) c L := by
 refine ⟨hl, (fun h => by cases h), Or.inr ⟨b, 0, rfl, lt_of_block h, fun j u hj => ?_⟩⟩
 rw [← hc] at hj
 rw [Nat.zero_add, cell_of_row w b j cs t _ h]
 simpa using hj
theorem got_box (w : World) (zs : Array Value) (hz : zs.size = 19) (b : Bank) (v : Vs) (f : Int × Int) :
  ((w.alloc (.cells zs 43)).alloc (.cells #[.int .i64 0, .int .i64 0] 47)).there w.heap.size 0 (cellsK b v).size ∧
  (((w.alloc (.cells zs 43)).alloc (.cells #[.int .i64 0, .int .i64 0] 47)).setCells w.heap.size 0 (cellsK b v).toList).heap[w.heap.size + 1]? = some (fo (0, 0)) ∧
  (((((w.alloc (.cells zs 43)).alloc (.cells #[.int .i64 0, .int .i64 0] 47)).setCells w.heap.size 0 (cellsK b v).toList).setCell ⟨w.heap.size + 1, 0, none⟩ (.int .i64 f.1)).setCell ⟨w.heap.size + 1, 1, none⟩ (.int .i64 f.2)).heap[w.heap.size]? = some (bko b v) ∧
  (((((w.alloc (.cells zs 43)).alloc (.cells #[.int .i64 0, .int .i64 0] 47)).setCells w.heap.size 0 (cellsK b v).toList).setCell ⟨w.heap.size + 1, 0, none⟩ (.int .i64 f.1)).setCell ⟨w.heap.size + 1, 1, none⟩ (.int .i64 f.2)).heap[w.heap.size + 1]? = some (fo f) ∧
  Below w.heap.size w (((((w.alloc (.cells zs 43)).alloc (.cells #[.int .i64 0, .int .i64 0] 47)).setCells w.heap.size 0 (cellsK b v).toList).setCell ⟨w.heap.size + 1, 0, none⟩ (.int .i64 f.1)).setCell ⟨w.heap.size + 1, 1, none⟩ (.int .i64 f.2)) := by
 have e1 := below_alloc w (.cells zs 43)
 have e2 := below_alloc (w.alloc (.cells zs 43)) (.cells #[.int .i64 0, .int .i64 0] 47)
 have h0 : ((w.alloc (.cells zs 43)).alloc (.cells #[.int .i64 0, .int .i64 0] 47)).heap[w.heap.size]? = some (.cells zs 43) := (e2.block _ (by simp)).trans (heap_alloc_at _ _ _ rfl)
 have h1 : ((w.alloc (.cells zs 43)).alloc (.cells #[.int .i64 0, .int .i64 0] 47)).heap[w.heap.size + 1]? = some (fo (0, 0)) := heap_alloc_at _ _ _ (by simp)
 have hb := e1.trans (e2.mono (by simp))
 refine ⟨there_blk h0 (by rw [hz]; exact Nat.le_refl 19), ?_⟩
 rw [putAll_cells]
 have g0 : (putAll ((w.alloc (.cells zs 43)).alloc (.cells #[.int .i64 0, .int .i64 0] 47)) w.heap.size 0 (cellsK b v).toList).heap[w.heap.size]? = some (bko b v) := by
  have := putAll_same (cellsK b v).toList ((w.alloc (.cells zs 43)).alloc (.cells #[.int .i64 0, .int .i64 0] 47)) w.heap.size [] zs.toList [] 43 (by simp [hz]; rfl) (by rw [h0]; simp)
  refine Eq.trans this ?_
  unfold bko
  simp
 have g1 := (putAll_other ((w.alloc (.cells zs 43)).alloc (.cells #[.int .i64 0, .int .i64 0] 47)) w.heap.size 0 (w.heap.size + 1) (cellsK b v).toList (by omega)).trans h1
 have hbY := below_putAll hb w.heap.size 0 (cellsK b v).toList (Nat.le_refl _)
 generalize putAll ((w.alloc (.cells zs 43)).alloc (.cells #[.int .i64 0, .int .i64 0] 47)) w.heap.size 0 (cellsK b v).toList = Y at *
 exact ⟨g1, (heap_setCell_other _ _ _ _ (by simp)).trans ((heap_setCell_other _ _ _ _ (by simp)).trans g0), fo_put g1, (hbY.setCell (p := ⟨w.heap.size + 1, 0, none⟩) (by simp) _).setCell (p := ⟨w.heap.size + 1, 1, none⟩) (by simp) _⟩
def Named (b : Bank) (acc : Int) : Prop := acc = 0 ∨ acc = 1 ∨ acc = 2 ∨ (10 ≤ acc ∧ acc < 10 + b.cards.length) ∨ (50 ≤ acc ∧ acc < 50 + b.due.length)
def outD (b : Bank) (d : Dd) : Int := if (doB b d).2.1 = 0 then (if d.kind = 1 then -d.sum else if d.kind = 11 then b.dueOf d.n else 0) else 0
structure Accts (b x : Bank) (o : Int) : Prop where
 out : Bk.getE x.book 0 = Bk.getE b.book 0 + o
 none : ∀ acc, ¬ Named b acc → Bk.getE x.book acc = Bk.getE b.book acc
 cards : x.cards.length = b.cards.length
 due : x.due.length = b.due.length
theorem accts_same {b x : Bank} (h1 : x.book = b.book) (h2 : x.cards.length = b.cards.length) (h3 : x.due.length = b.due.length) : Accts b x 0 := ⟨by rw [h1]; omega, fun acc _ => by rw [h1], h2, h3⟩
theorem accts_move {b x : Bank} {src dst n : Int} (h : (moveB b.book src dst n).2 = 0) (h1 : x.book = (moveB b.book src dst n).1) (hs : Named b src) (hd : Named b dst) (h2 : x.cards.length = b.cards.length) (h3 : x.due.length = b.due.length) :
  Accts b x ((if src = 0 then -n else 0) + (if dst = 0 then n else 0)) := by
 obtain ⟨-, m2⟩ := moveB_zero h
 refine ⟨by rw [h1, m2]; omega, fun acc ha => ?_, h2, h3⟩
 rw [h1, m2, if_neg (show ¬ src = acc from fun e => ha (e ▸ hs)), if_neg (show ¬ dst = acc from fun e => ha (e ▸ hd))]; omega
theorem accts_in {b x : Bank} {src dst n : Int} (h : (moveB b.book src dst n).2 = 0) (h1 : x.book = (moveB b.book src dst n).1) (hs : Named b src) (hd : Named b dst) (s0 : src ≠ 0) (d0 : dst ≠ 0) (h2 : x.cards.length = b.cards.length) (h3 : x.due.length = b.due.length) : Accts b x 0 := by
 have := accts_move h h1 hs hd h2 h3
 rwa [if_neg s0, if_neg d0] at this
theorem load_accts {b : Bank} {d : Dd} (h : (loadB b d).2 = 0) : Accts b (loadB b d).1 (-d.sum) := by
 unfold loadB at h ⊢
 split at h
 ·cases h
 rename_i h1
 rw [if_neg h1]
 split at h
 ·cases h
 rename_i h2
 rw [if_neg h2]
 split at h
 ·rename_i h3; exact absurd h h3
 rename_i h3
 rw [if_neg h3]
 split at h
 ·rename_i h4; exact absurd h h4
 rename_i h4
 rw [if_neg h4]
 have := accts_move (x := { b with cards := b.cards.set d.n.toNat (shiftC (b.card d.n) 0 d.sum).1, book := (moveB b.book 0 (10 + d.n) d.sum).1 }) (Decidable.not_not.1 h4) rfl (Or.inl rfl) (by unfold Named; omega) (by simp) rfl
 rwa [if_pos rfl, if_neg (by omega), Int.add_zero] at this
theorem pay_accts {b : Bank} {d : Dd} (h : (payB b d).2 = 0) : Accts b (payB b d).1 (b.dueOf d.n) := by
 unfold payB at h ⊢
 split at h
 ·cases h
 rename_i h1
 rw [if_neg h1]
 split at h
 ·cases h
 rename_i h2
 rw [if_neg h2]
 split at h
 ·rename_i h3; exact absurd h h3
 rename_i h3
 rw [if_neg h3]
 have := accts_move (x := { b with due := b.due.set d.n.toNat 0, book := (moveB b.book (50 + d.n) 0 (b.dueOf d.n)).1 }) (Decidable.not_not.1 h3) rfl (by unfold Named; omega) (Or.inl rfl) rfl (by simp)
 rwa [if_neg (by omega), if_pos rfl, Int.zero_add] at this
theorem move_accts {b : Bank} {d : Dd} (I : Inv b) (h : (moveD b d).2 = 0) : Accts b (moveD b d).1 0 := by
 unfold moveD at h ⊢
 split at h
 ·cases h
 rename_i q1
 rw [if_neg q1]
 split at h
 ·cases h
 rename_i q2
 rw [if_neg q2]
 split at h
 ·rename_i q; exact absurd h q
 rename_i q3
 rw [if_neg q3]
 split at h
 ·cases h
 rename_i q4
 rw [if_neg q4]
 split at h
 ·rename_i q; exact absurd h q
 rename_i q5
 rw [if_neg q5]
 split at h
 ·rename_i q; exact absurd h q
 rename_i q6
 rw [if_neg q6]
 split at h
 ·rename_i q; exact absurd h q
 rename_i q7
 rw [if_neg q7]
 split at h
 ·cases h
 rename_i q8
 rw [if_neg q8]
 replace q6 : (bookBy b.book (b.auth d.n) d.mv d.sum).2 = 0 := Decidable.not_not.1 q6
 obtain ⟨r1, -, r3, r4⟩ := I.held.auth (k := d.n) (by omega) (by omega)
 have hc0 : 0 ≤ (b.auth d.n).card := r1.2.2.2.2.1.1
 have hs0 : 0 ≤ (b.auth d.n).shop := r1.2.2.2.2.2.1.1
 have e1 : (moveAll b d).book = (bookBy b.book (b.auth d.n) d.mv d.sum).1 := rfl
 have e2 : (moveAll b d).cards.length = b.cards.length := by simp [moveAll]
 have e3 : (moveAll b d).due.length = b.due.length := by simp [moveAll]
 have nc : Named b (10 + (b.auth d.n).card) := by unfold Named; omega
 have ns : Named b (50 + (b.auth d.n).shop) := by unfold Named; omega
 have n1 : Named b 1 := Or.inr (Or.inl rfl)
 have n2 : Named b 2 := Or.inr (Or.inr (Or.inl rfl))
 unfold bookBy at q6 e1
 split at q6
 ·rename_i k; rw [if_pos k] at e1
  exact accts_in q6 e1 nc n1 (by omega) (by omega) e2 e3
 rename_i k; rw [if_neg k] at e1
 split at q6
 ·rename_i k; rw [if_pos k] at e1
  exact accts_in q6 e1 ns n1 (by omega) (by omega) e2 e3
 rename_i k; rw [if_neg k] at e1
 split at q6
 ·rename_i k; rw [if_pos k] at e1
  exact accts_in q6 e1 n2 nc (by omega) (by omega) e2 e3
 rename_i k; rw [if_neg k] at e1
 split at q6
 ·rename_i k; rw [if_pos k] at e1
  exact accts_in q6 e1 nc n2 (by omega) (by omega) e2 e3
 rename_i k; rw [if_neg k] at e1
 exact accts_same e1 e2 e3
theorem arrive_accts {b : Bank} {d : Dd} {lost : Bool} (I : Inv b) (h : (arriveB b d lost).2 = 0) : Accts b (arriveB b d lost).1 0 := by
 unfold arriveB at h ⊢
 by_cases h1 : d.n < 0 ∨ 1 < d.n
 ·rw [if_pos h1] at h; cases h
 rw [if_neg h1] at h ⊢
 generalize sideOf d.n = i at *
 cases hw : b.way i with
 | nil => rw [hw] at h; cases h
 | cons p r =>
  rw [hw] at h
  dsimp only at h ⊢
  cases lost with
  | true => rw [if_pos rfl]; exact accts_same rfl rfl rfl
  | false =>
   rw [if_neg (by simp)] at h ⊢
   have hp := I.sent.ways i p (by rw [hw]; exact List.mem_cons_self)
   unfold arriveAt at h ⊢
   by_cases h2 : 0 ≤ p.seen
   ·rw [if_pos h2] at h ⊢
    split at h
    ·rename_i h3; exact absurd h h3
    rename_i h3
    rw [if_neg h3]
    exact accts_same rfl rfl rfl
   ·rw [if_neg h2] at h ⊢
    by_cases h3 : p.t.n ≠ b.seen i + 1 ∨ 1000000 ≤ b.seen i
    ·rw [if_pos h3]; exact accts_same rfl rfl rfl
    ·rw [if_neg h3] at h ⊢
     have ht : p.t ∈ (b.snd (!i)).kept := by
      rcases hp with ⟨-, g1 | g1⟩ | ⟨g1, -⟩
      ·omega
      ·exact g1
      ·omega
     have hin := kept_in I (!i) p.t ht
     obtain ⟨r1, -, r3, r4⟩ := I.held.auth hin.1 hin.2
     have hc0 : 0 ≤ (b.auth p.t.a).card := r1.2.2.2.2.1.1
     have hs0 : 0 ≤ (b.auth p.t.a).shop := r1.2.2.2.2.2.1.1
     have nc : Named b (10 + (b.auth p.t.a).card) := by unfold Named; omega
     have ns : Named b (50 + (b.auth p.t.a).shop) := by unfold Named; omega
     have n1 : Named b 1 := Or.inr (Or.inl rfl)
     have n2 : Named b 2 := Or.inr (Or.inr (Or.inl rfl))
     unfold comes at h ⊢
     by_cases k1 : p.t.k = 1
     ·rw [if_pos k1] at h ⊢
      split at h
      ·rename_i q; exact absurd h q
      rename_i q
      rw [if_neg q]
      exact accts_in (Decidable.not_not.1 q) rfl n1 ns (by omega) (by omega) rfl (by simp)
     rw [if_neg k1] at h ⊢
     by_cases k2 : p.t.k = 2
     ·rw [if_pos k2] at h ⊢
      split at h
      ·rename_i q; exact absurd h q
      rename_i q
      rw [if_neg q]
      split at h
      ·rename_i q2; exact absurd h q2
      rename_i q2
      rw [if_neg q2]
      exact accts_in (Decidable.not_not.1 q2) rfl n1 nc (by omega) (by omega) (by simp) rfl
     rw [if_neg k2] at h ⊢
     by_cases k3 : p.t.k = 3
     ·rw [if_pos k3] at h ⊢
      split at h
      ·rename_i q; exact absurd h q
      rename_i q
      rw [if_neg q]
      exact accts_in (Decidable.not_not.1 q) rfl ns n2 (by omega) (by omega) rfl (by simp)
     rw [if_neg k3]
     exact accts_same rfl rfl rfl
theorem fold_len {α : Type} (f : List Ca → α → List Ca) (hf : ∀ cs a, (f cs a).length = cs.length) (L : List α) : ∀ cs, (L.foldl f cs).length = cs.length := by
 induction L with
 | nil => intro cs; rfl
 | cons x r ih => intro cs; rw [List.foldl_cons, ih, hf]
theorem shut_cards (b : Bank) : (shutB b).cards.length = b.cards.length := fold_len _ (fun cs a => by simp [lateC]) _ _
theorem do_accts {b : Bank} {d : Dd} (I : Inv b) : Accts b (doB b d).1 (outD b d) := by
 by_cases h : (doB b d).2.1 = 0
 case neg =>
  have : outD b d = 0 := by unfold outD; rw [if_neg h]
  rw [doB_refused b d h, this]; exact accts_same rfl rfl rfl
 have ho : outD b d = (if d.kind = 1 then -d.sum else if d.kind = 11 then b.dueOf d.n else 0) := by unfold outD; rw [if_pos h]
 rw [ho]
 clear ho
 unfold doB at h ⊢
 by_cases k1 : d.kind = 1
 ·rw [if_pos k1] at h ⊢
  rw [if_pos k1]
  exact load_accts h
 rw [if_neg k1] at h ⊢
 rw [if_neg k1]
 by_cases k11 : d.kind = 11
 ·rw [if_neg (by omega), if_neg (by omega), if_neg (by omega), if_neg (by omega), if_neg (by omega), if_neg (by omega), if_neg (by omega), if_neg (by omega), if_neg (by omega), if_pos k11] at h ⊢
  rw [if_pos k11]
  exact pay_accts h
 have h0 : (if d.kind = 11 then b.dueOf d.n else (0 : Int)) = 0 := if_neg k11
 rw [h0]
 clear h0
 split at h
 ·rename_i e; rw [if_pos e]
  unfold askB askDown askUp
  repeat' split
  all_goals exact accts_same rfl (by simp) rfl
 rename_i e; rw [if_neg e]
 split at h
 ·rename_i e; rw [if_pos e]; exact move_accts I h
 rename_i e; rw [if_neg e]
 split at h
 ·rename_i e; rw [if_pos e]
  unfold two tickB
  split
  ·exact accts_same rfl rfl rfl
  split
  ·exact accts_same rfl rfl rfl
  ·exact accts_same rfl (shut_cards _) rfl
 rename_i e; rw [if_neg e]
 split at h
 ·rename_i e; rw [if_pos e]
  unfold two sendB
  repeat' split
  all_goals exact accts_same rfl rfl rfl
 rename_i e; rw [if_neg e]
 split at h
 ·rename_i e; rw [if_pos e]; exact arrive_accts I h
 rename_i e; rw [if_neg e]
 split at h
 ·rename_i e; rw [if_pos e]; exact arrive_accts I h
 rename_i e; rw [if_neg e]
 split at h
 ·rename_i e; rw [if_pos e]
  unfold two downB
  repeat' split
  all_goals exact accts_same rfl rfl rfl
 rename_i e; rw [if_neg e]
 split at h
 ·rename_i e; rw [if_pos e]
  unfold two upB
  split
  ·exact accts_same rfl ((shut_cards _).trans (fold_len _ (fun cs a => by simp [forceL]) _ _)) rfl
  ·exact accts_same rfl rfl rfl
 rename_i e; rw [if_neg e]
 split at h
 ·rename_i e; rw [if_pos e]; exact accts_same rfl rfl rfl
 rename_i e; rw [if_neg e, if_neg k11]
 exact accts_same rfl rfl rfl
end Go.Proofs.YtofcnebekmjdoaaGreatDoor.Bn
