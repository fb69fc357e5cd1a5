import Derived.Test.YtofcnebekmjdoaaGreatDoorKbu
import Derived.Test.YtofcnebekmjdoaaGreatDoorLRefab
set_option maxHeartbeats 4000000
set_option maxRecDepth 100000
namespace Go.Proofs.YtofcnebekmjdoaaGreatDoor.Bn
open Go.Proofs.YtofcnebekmjdoaaGreatDoor
def StaysC (b x : Bank) : Prop := b.auths.length ≤ x.auths.length ∧ ∀ n : Nat, n < b.auths.length → (x.auths.getD n zA).card = (b.auths.getD n zA).card
theorem staysC_same {b x : Bank} (h : x.auths = b.auths) : StaysC b x := by unfold StaysC; rw [h]; exact ⟨Nat.le_refl _, fun _ _ => rfl⟩
theorem staysC_append {b x : Bank} {l : List Au.Au} (h : x.auths = b.auths ++ l) : StaysC b x := by
 unfold StaysC
 rw [h]
 refine ⟨by simp, fun n hn => ?_⟩
 simp [List.getD, List.getElem?_append_left hn]
theorem step_card (a : Au.Au) (k n : Int) : (Au.step a k n).card = a.card := by
 unfold Au.step
 repeat' split
 all_goals rfl
theorem staysC_set {b x : Bank} {i : Nat} {k n : Int} (hi : i < b.auths.length) (h : x.auths = b.auths.set i (Au.step (b.auths.getD i zA) k n)) : StaysC b x := by
 unfold StaysC
 rw [h]
 refine ⟨by simp, fun j hj => ?_⟩
 rw [getD_set _ _ _ _ _ hi]
 split
 ·rename_i e; subst e; exact step_card _ _ _
 ·rfl
theorem staysC_shut (b : Bank) : StaysC b (shutB b) := by
 refine ⟨by simp [shutB], fun n hn => ?_⟩
 show ((b.auths.map fun a => Au.lateA a b.time).getD n zA).card = _
 simp [List.getD, hn, Au.lateA]
theorem pendC_those (l : List Au.Au) (k : Nat) {s came : Int} (h : s ≤ came) (L : List Po.Tr) : sumOn (pendC l k came) (Po.those s L) = sumOn (pendC l k came) L := by
 unfold Po.those
 induction L with
 | nil => rfl
 | cons t r ih =>
  by_cases e : s < t.n
  ·rw [List.filter_cons_of_pos (by simpa using e)]
   simp only [sumOn, ih]
  ·rw [List.filter_cons_of_neg (by simpa using e), ih]
   simp only [sumOn]
   unfold pendC
   rw [if_neg (by omega)]; omega
theorem pendC_more (l : List Au.Au) (k : Nat) {s : Po.Se} (R : Po.Right s) {t : Po.Tr} (ht : t ∈ s.kept) {came : Int} (hn : t.n = came + 1) : sumOn (pendC l k (came + 1)) s.kept = sumOn (pendC l k came) s.kept - gives l k t := by
 rw [sum_one (right_rise R) ht (f := pendC l k (came + 1)) (g := pendC l k came)]
 ·unfold pendC
  rw [if_neg (by omega), if_pos (by omega)]; omega
 ·intro x _ hx
  unfold pendC
  by_cases h1 : came < x.n
  ·rw [if_pos h1, if_pos (by omega)]
  ·rw [if_neg h1, if_neg (by omega)]
theorem pendC_stays {b x : Bank} (h : StaysC b x) (k : Nat) (came : Int) {L : List Po.Tr} (hL : ∀ t ∈ L, 0 ≤ t.a ∧ t.a < b.auths.length) : sumOn (pendC x.auths k came) L = sumOn (pendC b.auths k came) L :=
 sumOn_congr fun t ht => by
  have := h.2 t.a.toNat (by have := hL t ht; omega)
  unfold pendC gives cardA
  rw [this]
theorem cbal_still {b x : Bank} (I : Inv b) (k : Nat) (h1 : (x.cards.getD k zeroC).m = (b.cards.getD k zeroC).m) (h2 : sumOn (spentBy k) x.auths = sumOn (spentBy k) b.auths) (h3 : StaysC b x) (h4 : x.seen false = b.seen false) (h5 : (x.snd true).kept = (b.snd true).kept) : cbal k x = cbal k b := by
 unfold cbal
 rw [h1, h2, h4, h5, pendC_stays h3 k _ (kept_in I true)]
theorem cbal_same {b x : Bank} (I : Inv b) (k : Nat) (h1 : x.cards = b.cards) (h2 : x.auths = b.auths) (h4 : x.seen false = b.seen false) (h5 : (x.snd true).kept = (b.snd true).kept) : cbal k x = cbal k b :=
 cbal_still I k (by rw [h1]) (by rw [h2]) (staysC_same h2) h4 h5
theorem load_cbal {b : Bank} {d : Dd} (k : Nat) (h : (loadB b d).2 = 0) : cbal k (loadB b d).1 = cbal k b + (if d.n = (k : Int) then d.sum else 0) := by
 unfold loadB at h ⊢
 split at h
 ·cases h
 rename_i h1
 rw [if_neg h1]
 split at h
 ·cases h
 rename_i h2
 rw [if_neg h2]
 split at h
 ·rename_i h3; exact absurd h h3
 rename_i h3
 rw [if_neg h3]
 split at h
 ·rename_i h4; exact absurd h h4
 rename_i h4
 rw [if_neg h4]
 obtain ⟨-, g2, -⟩ := right_of_shift (Decidable.not_not.1 h3)
 show ((b.cards.set d.n.toNat (shiftC (b.card d.n) 0 d.sum).1).getD k zeroC).m + _ + _ = cbal k b + _
 rw [getD_set _ _ _ _ _ (by omega), g2]
 unfold cbal
 by_cases e : d.n.toNat = k
 ·rw [if_pos e, if_pos (by omega)]
  have : (b.card d.n).m = (b.cards.getD k zeroC).m := by unfold Bank.card; rw [e]
  dsimp only
  rw [this]; omega
 ·rw [if_neg e, if_neg (by omega)]; dsimp only; omega
theorem ask_cbal {b : Bank} {d : Dd} (I : Inv b) (k : Nat) : cbal k (askB b d).1 = cbal k b := by
 unfold askB askDown askUp
 split
 ·rfl
 rename_i h1
 split
 ·split
  ·rfl
  ·split
   ·rfl
   ·exact cbal_same I k rfl rfl rfl rfl
 ·split
  ·rfl
  ·rename_i h2
   split
   ·rfl
   ·split
    ·rfl
    ·rename_i h4
     obtain ⟨n1, -⟩ := newA_zero (Decidable.not_not.1 h2)
     obtain ⟨-, -, -, -, -, c2, -⟩ := allow_zero (Decidable.not_not.1 h4)
     refine cbal_still I k ?_ ?_ (staysC_append rfl) rfl rfl
     ·show ((b.cards.set d.n.toNat _).getD k zeroC).m = _
      rw [getD_set _ _ _ _ _ (by omega)]
      split
      ·rename_i e; subst e; rw [c2]; rfl
      ·rfl
     ·show sumOn (spentBy k) (b.auths ++ [_]) = _
      rw [sumOn_append, sumOn_one, n1]
      unfold spentBy; dsimp only
      split <;> omega
theorem shut_cbal {b : Bank} (I : Inv b) (k : Nat) (hk : k < b.cards.length) : cbal k (shutB b) = cbal k b := by
 obtain ⟨-, l2⟩ := fold_late b.time b.auths b.cards fun a ha => ⟨(I.held.auths a ha).1.2.2.2.2.1.1, (I.held.auths a ha).2.2.1⟩
 refine cbal_still I k ?_ ?_ (staysC_shut b) rfl rfl
 ·show ((b.auths.foldl (lateC b.time) b.cards).getD k zeroC).m = _
  rw [l2 k hk]
 ·show sumOn (spentBy k) (b.auths.map _) = _
  rw [sumOn_map]; rfl
theorem tick_cbal {b : Bank} {d : Dd} (I : Inv b) (k : Nat) (hk : k < b.cards.length) : cbal k (tickB b d).1 = cbal k b := by
 unfold tickB
 split
 ·rfl
 ·rename_i h1
  split
  ·exact cbal_same I k rfl rfl rfl rfl
  ·exact (shut_cbal (tick_mid I h1) k hk).trans (cbal_same I k rfl rfl rfl rfl)
theorem up_cbal {b : Bank} (I : Inv b) (k : Nat) (hk : k < b.cards.length) : cbal k (upB b).1 = cbal k b := by
 unfold upB
 split
 ·rename_i h1
  have hf : ∀ x ∈ b.stand.adv, St.Fits x b.stand.used.length := I.held.stand.adv.each
  obtain ⟨l1, l2⟩ := fold_force b.stand.adv b.cards fun x hx => by have := hf x hx; rw [I.held.standN] at this; exact ⟨this.1, this.2.1⟩
  refine (shut_cbal (up_mid I h1) k (by show k < (b.stand.adv.foldl forceL b.cards).length; rw [l1]; exact hk)).trans ?_
  refine cbal_still I k ?_ ?_ (staysC_append rfl) rfl rfl
  ·show ((b.stand.adv.foldl forceL b.cards).getD k zeroC).m = _
   rw [l2 k hk]
  ·show sumOn (spentBy k) (b.auths ++ b.stand.adv.map advA) = _
   rw [sumOn_append, sumOn_map, sumOn_zero (f := fun x => spentBy k (advA x)) (fun x _ => by unfold spentBy advA; dsimp only; split <;> omega)]; omega
 ·rfl
theorem comes_cbal {b : Bank} {i : Bool} {t : Po.Tr} (I : Inv b) (k : Nat) (ht : t ∈ (b.snd (!i)).kept) (hn : t.n = b.seen i + 1) (h : (comes b i t).2 = 0) : cbal k (comes b i t).1 = cbal k b := by
 have hin := kept_in I (!i) t ht
 obtain ⟨r1, -, r3, -⟩ := I.held.auth hin.1 hin.2
 have hc0 : 0 ≤ (b.auth t.a).card := r1.2.2.2.2.1.1
 have hci : (b.auth t.a).card.toNat < b.cards.length := by omega
 have hch : cardA b.auths t.a = (b.auth t.a).card := rfl
 unfold comes at h ⊢
 cases i with
 | true =>
  have hse : upd b.seen true (b.seen true + 1) false = b.seen false := upd_other b.seen true _
  rcases I.sent.kind0 t ht with hk | hk
  ·rw [if_pos hk] at h ⊢
   split at h
   ·rename_i q; exact absurd h q
   rename_i q
   rw [if_neg q]
   exact cbal_same I k rfl rfl hse rfl
  ·rw [if_neg (by omega), if_neg (by omega), if_pos hk] at h ⊢
   split at h
   ·rename_i q; exact absurd h q
   rename_i q
   rw [if_neg q]
   exact cbal_same I k rfl rfl hse rfl
 | false =>
  have hp := pendC_more b.auths k (I.sent.right true) ht hn
  have hse : upd b.seen false (b.seen false + 1) false = b.seen false + 1 := upd_same _ _ _
  have hk := I.sent.kind1 t ht
  rw [if_neg (by omega), if_pos hk] at h ⊢
  split at h
  ·rename_i q; exact absurd h q
  rename_i q
  rw [if_neg q]
  split at h
  ·rename_i q2; exact absurd h q2
  rename_i q2
  rw [if_neg q2]
  obtain ⟨-, g2, -⟩ := right_of_shift (Decidable.not_not.1 q)
  show ((b.cards.set (b.auth t.a).card.toNat (shiftC (b.card (b.auth t.a).card) 0 t.s).1).getD k zeroC).m + sumOn (spentBy k) b.auths + sumOn (pendC b.auths k (upd b.seen false (b.seen false + 1) false)) (b.snd true).kept = cbal k b
  rw [hse, hp, getD_set _ _ _ _ _ hci, g2]
  unfold cbal gives
  rw [hch]
  by_cases e : (b.auth t.a).card.toNat = k
  ·rw [if_pos e, if_pos (by omega)]
   have : (b.card (b.auth t.a).card).m = (b.cards.getD k zeroC).m := by unfold Bank.card; rw [e]
   dsimp only
   rw [this]; omega
  ·rw [if_neg e, if_neg (by omega)]; omega
theorem arrive_cbal {b : Bank} {d : Dd} {lost : Bool} (I : Inv b) (k : Nat) (h : (arriveB b d lost).2 = 0) : cbal k (arriveB b d lost).1 = cbal k b := by
 unfold arriveB at h ⊢
 by_cases h1 : d.n < 0 ∨ 1 < d.n
 ·rw [if_pos h1]
 rw [if_neg h1] at h ⊢
 generalize sideOf d.n = i at *
 cases hw : b.way i with
 | nil => rfl
 | cons p r =>
  rw [hw] at h
  dsimp only at h ⊢
  cases lost with
  | true => rw [if_pos rfl]; exact cbal_same (x := gone b i) I k rfl rfl rfl rfl
  | false =>
   rw [if_neg (by simp)] at h ⊢
   have hp := I.sent.ways i p (by rw [hw]; exact List.mem_cons_self)
   unfold arriveAt at h ⊢
   by_cases h2 : 0 ≤ p.seen
   ·rw [if_pos h2] at h ⊢
    split at h
    ·rename_i h3; exact absurd h h3
    rename_i h3
    rw [if_neg h3]
    obtain ⟨-, -, -, hb⟩ := backS_zero (Decidable.not_not.1 h3)
    have hn : p.seen ≤ b.seen (!i) := by
     rcases hp with ⟨g1, -⟩ | ⟨-, g2⟩
     ·omega
     ·exact g2
    show (b.cards.getD k zeroC).m + sumOn (spentBy k) b.auths + sumOn (pendC b.auths k (b.seen false)) (upd b.snd i (Po.backS (b.snd i) p.seen).1 true).kept = cbal k b
    unfold cbal
    cases i with
    | false =>
     have : upd b.snd false (Po.backS (b.snd false) p.seen).1 true = b.snd true := upd_other b.snd false _
     rw [this]
    | true =>
     rw [upd_same, hb]
     show _ + sumOn _ (Po.those p.seen (b.snd true).kept) = _
     have hn2 : p.seen ≤ b.seen false := hn
     rw [pendC_those _ _ hn2]
   ·rw [if_neg h2] at h ⊢
    by_cases h3 : p.t.n ≠ b.seen i + 1 ∨ 1000000 ≤ b.seen i
    ·rw [if_pos h3]; exact cbal_same I k rfl rfl rfl rfl
    ·rw [if_neg h3] at h ⊢
     refine comes_cbal I k ?_ (by omega) h
     rcases hp with ⟨-, g1 | g1⟩ | ⟨g1, -⟩
     ·omega
     ·exact g1
     ·omega
def spentD (k n : Int) : Int := if k = 2 ∨ k = 3 ∨ k = 8 then n else if k = 5 ∨ k = 6 then -n else 0
theorem step_spent {a : Au.Au} {k n : Int} (h1 : 1 ≤ k) (h2 : k ≤ 8) : (Au.step a k n).cap - (Au.step a k n).ref - (Au.step a k n).dis = a.cap - a.ref - a.dis + spentD k n := by
 unfold spentD
 rcases eight h1 h2 with rfl | rfl | rfl | rfl | rfl | rfl | rfl | rfl <;> simp [Au.step] <;> omega
def pendCD (k n : Int) : Int := if k = 5 then n else 0
theorem send_pendC {b : Bank} (S : Sent b) (l : List Au.Au) (k : Nat) {kind auth n : Int} (h : (sendBy b.snd kind auth n).2 = 0) :
  sumOn (pendC l k (b.seen false)) ((sendBy b.snd kind auth n).1 true).kept = sumOn (pendC l k (b.seen false)) (b.snd true).kept + (if cardA l auth = (k : Int) then pendCD kind n else 0) := by
 have hoth : ∀ x, upd b.snd false x true = b.snd true := fun x => upd_other b.snd false x
 unfold sendBy at h ⊢
 unfold pendCD
 by_cases k1 : kind = 2 ∨ kind = 3
 ·rw [if_pos k1] at h ⊢
  dsimp only
  rw [hoth, if_neg (show ¬ kind = 5 by omega)]; simp
 rw [if_neg k1] at h ⊢
 by_cases k2 : kind = 5
 ·rw [if_pos k2] at h ⊢
  dsimp only
  rw [upd_same, if_pos k2]
  obtain ⟨p1, -⟩ := put_zero h
  rw [p1]
  show sumOn _ ((b.snd true).kept ++ [Po.nextT (b.snd true) ⟨0, 2, auth, n⟩]) = _
  rw [sumOn_append, sumOn_one]
  have hc : b.seen false < (Po.nextT (b.snd true) ⟨0, 2, auth, n⟩).n := by
   have := S.seen1 false
   show _ < (b.snd true).sent + 1
   simp only [Bool.not_false] at this; omega
  have : pendC l k (b.seen false) (Po.nextT (b.snd true) ⟨0, 2, auth, n⟩) = (if cardA l auth = (k : Int) then n else 0) := by unfold pendC; rw [if_pos hc]; rfl
  rw [this]
 rw [if_neg k2] at h ⊢
 by_cases k3 : kind = 7
 ·rw [if_pos k3] at h ⊢
  dsimp only
  rw [hoth, if_neg (show ¬ kind = 5 by omega)]; simp
 rw [if_neg k3] at h ⊢
 rw [if_neg (show ¬ kind = 5 by omega)]; simp
theorem move_cbal {b : Bank} {d : Dd} (I : Inv b) (k : Nat) (h : (moveD b d).2 = 0) : cbal k (moveD b d).1 = cbal k b := by
 unfold moveD at h ⊢
 split at h
 ·cases h
 rename_i q1
 rw [if_neg q1]
 split at h
 ·cases h
 rename_i q2
 rw [if_neg q2]
 split at h
 ·rename_i q; exact absurd h q
 rename_i q3
 rw [if_neg q3]
 split at h
 ·cases h
 rename_i q4
 rw [if_neg q4]
 split at h
 ·rename_i q; exact absurd h q
 rename_i q5
 rw [if_neg q5]
 split at h
 ·rename_i q; exact absurd h q
 rename_i q6
 rw [if_neg q6]
 split at h
 ·rename_i q; exact absurd h q
 rename_i q7
 rw [if_neg q7]
 split at h
 ·cases h
 rename_i q8
 rw [if_neg q8]
 replace q3 := Au.mvErr_zero.1 (Decidable.not_not.1 q3)
 replace q7 : (sendBy b.snd d.mv d.n d.sum).2 = 0 := Decidable.not_not.1 q7
 obtain ⟨-, g2, -⟩ := right_of_shift (Decidable.not_not.1 q5)
 have hn : d.n.toNat < b.auths.length := by omega
 obtain ⟨r1, -, r3, -⟩ := I.held.auth (k := d.n) (by omega) (by omega)
 have hc0 : 0 ≤ (b.auth d.n).card := r1.2.2.2.2.1.1
 have hci : (b.auth d.n).card.toNat < b.cards.length := by omega
 have k1 := q3.2.2.1
 have k2 := q3.2.2.2.1
 have hst : StaysC b (moveAll b d) := staysC_set hn rfl
 have hpx : sumOn (pendC (moveAll b d).auths k (b.seen false)) ((sendBy b.snd d.mv d.n d.sum).1 true).kept = sumOn (pendC b.auths k (b.seen false)) ((sendBy b.snd d.mv d.n d.sum).1 true).kept := by
  obtain ⟨w0, -⟩ := send_zero (x := moveAll b d) I.sent q7 (by omega) rfl rfl rfl (by simp [moveAll])
  refine pendC_stays hst k _ fun t ht => ?_
  have h1 := (right_mem (w0.right true) ht).2.1
  unfold Po.far at h1
  have h2 := w0.auths true t ht
  have h3 : (moveAll b d).auths.length = b.auths.length := by simp [moveAll]
  exact ⟨by omega, by omega⟩
 have hcap : sumOn (spentBy k) (b.auths.set d.n.toNat (aft b d)) = sumOn (spentBy k) b.auths + (if (b.auth d.n).card = (k : Int) then spentD d.mv d.sum else 0) := by
  rw [sumOn_set _ _ _ _ zA hn]
  have e1 : (aft b d).card = (b.auth d.n).card := step_card _ _ _
  have e2 : (aft b d).cap - (aft b d).ref - (aft b d).dis = (b.auth d.n).cap - (b.auth d.n).ref - (b.auth d.n).dis + spentD d.mv d.sum := step_spent k1 k2
  have e3 : spentBy k (b.auths.getD d.n.toNat zA) = spentBy k (b.auth d.n) := rfl
  rw [e3]
  unfold spentBy
  rw [e1, e2]
  split <;> omega
 have hcc : (cardAft b d).1 = ⟨(b.card (b.auth d.n).card).m + cardBy d.mv d.sum, (b.card (b.auth d.n).card).h + (Au.holdA (aft b d) - Au.holdA (b.auth d.n)), (b.card (b.auth d.n).card).p, (b.card (b.auth d.n).card).u⟩ := g2
 show ((b.cards.set (b.auth d.n).card.toNat (cardAft b d).1).getD k zeroC).m + sumOn (spentBy k) (b.auths.set d.n.toNat (aft b d)) + sumOn (pendC (moveAll b d).auths k (b.seen false)) ((sendBy b.snd d.mv d.n d.sum).1 true).kept = cbal k b
 rw [hpx, send_pendC I.sent b.auths k q7, hcap, getD_set _ _ _ _ _ hci, hcc]
 have hsh : cardA b.auths d.n = (b.auth d.n).card := rfl
 rw [hsh]
 unfold cbal
 by_cases e : (b.auth d.n).card.toNat = k
 ·rw [if_pos e, if_pos (by omega), if_pos (by omega)]
  have : (b.card (b.auth d.n).card).m = (b.cards.getD k zeroC).m := by unfold Bank.card; rw [e]
  dsimp only
  rw [this]
  have hz : cardBy d.mv d.sum + spentD d.mv d.sum + pendCD d.mv d.sum = 0 := by
   unfold cardBy spentD pendCD
   generalize d.mv = mv at *
   rcases eight k1 k2 with rfl | rfl | rfl | rfl | rfl | rfl | rfl | rfl <;> simp <;> omega
  omega
 ·rw [if_neg e, if_neg (by omega), if_neg (by omega)]; omega
def loads (b : Bank) (d : Dd) (k : Nat) : Int := if d.kind = 1 ∧ (doB b d).2.1 = 0 ∧ d.n = (k : Int) then d.sum else 0
theorem do_cbal {b : Bank} {d : Dd} (I : Inv b) (k : Nat) (hk : k < b.cards.length) : cbal k (doB b d).1 = cbal k b + loads b d k := by
 by_cases h : (doB b d).2.1 = 0
 case neg => rw [doB_refused b d h]; unfold loads; rw [if_neg (fun hp => h hp.2.1)]; omega
 by_cases k1 : d.kind = 1
 ·have e : doB b d = two (loadB b d) := by unfold doB; rw [if_pos k1]
  unfold loads
  rw [e] at h ⊢
  rw [show cbal k (two (loadB b d)).1 = cbal k (loadB b d).1 from rfl, load_cbal k h]
  by_cases hk : d.n = (k : Int)
  ·rw [if_pos hk, if_pos ⟨k1, h, hk⟩]
  ·rw [if_neg hk, if_neg (fun hp => hk hp.2.2)]
 have hl : loads b d k = 0 := by unfold loads; rw [if_neg (fun hp => k1 hp.1)]
 rw [hl, Int.add_zero]
 unfold doB at h ⊢
 rw [if_neg k1] at h ⊢
 split at h
 ·rename_i e; rw [if_pos e]; exact ask_cbal I k
 rename_i e; rw [if_neg e]
 split at h
 ·rename_i e; rw [if_pos e]; exact move_cbal I k h
 rename_i e; rw [if_neg e]
 split at h
 ·rename_i e; rw [if_pos e]; exact tick_cbal I k hk
 rename_i e; rw [if_neg e]
 split at h
 ·rename_i e; rw [if_pos e]
  unfold two sendB
  repeat' split
  all_goals exact cbal_same I k rfl rfl rfl rfl
 rename_i e; rw [if_neg e]
 split at h
 ·rename_i e; rw [if_pos e]; exact arrive_cbal I k h
 rename_i e; rw [if_neg e]
 split at h
 ·rename_i e; rw [if_pos e]; exact arrive_cbal I k h
 rename_i e; rw [if_neg e]
 split at h
 ·rename_i e; rw [if_pos e]
  unfold two downB
  repeat' split
  all_goals exact cbal_same I k rfl rfl rfl rfl
 rename_i e; rw [if_neg e]
 split at h
 ·rename_i e; rw [if_pos e]; exact up_cbal I k hk
 rename_i e; rw [if_neg e]
 split at h
 ·rename_i e; rw [if_pos e]; exact cbal_same I k rfl rfl rfl rfl
 rename_i e; rw [if_neg e]
 split at h
 ·rename_i e; rw [if_pos e]
  unfold two payB
  repeat' split
  all_goals exact cbal_same I k rfl rfl rfl rfl
 rename_i e; rw [if_neg e]
open Go.RowKit Go.Proofs.YtofcnebekmjdoaaGreatDoor.Gn
theorem Hand.same {w : World} {g base : Nat} {lab : Lab} {b : Bank} {v : Vs} {cs : List CV} {ds : List DV} {tm : Value} (H : Hand w g base lab b v cs ds tm) : Goes w g base lab b tm := H.goes
open Go.RowKit Go.Proofs.YtofcnebekmjdoaaGreatDoor.Gn
variable {α : Type}
theorem Shown.below {w w' : World} {b : Bank} {v : Vs} {cs : List CV} {ds : List DV} (h : Shows w b v cs ds) (hb : Below w.heap.size w w') : Shows w' b v cs ds :=
 h.go hb.size (fun _ _ => rfl) fun k hk _ => hb.block k hk
open Go.ChangeShapes Go.WideShapes Go.ChangeAt Go.RowKit Go.Proofs.YtofcnebekmjdoaaGreatDoor.Gn
theorem cellsPace : Tryz.prog.cellsOf 58 = 3 := by kernel_rfl
theorem cellsDo : Tryz.prog.cellsOf 74 = 6 := by kernel_rfl
theorem cellsSetup : Tryz.prog.cellsOf 24 = 3 := by kernel_rfl
theorem cellsPaces : Tryz.prog.cellsOf 22 = 1 := by kernel_rfl
theorem six {l : List Value} (h : l.length = 6) : ∃ a b c d e f, l = [a, b, c, d, e, f] := by
 match l, h with
 | [a, b, c, d, e, f], _ => exact ⟨a, b, c, d, e, f, rfl⟩
theorem open_pa {H : Type} {enc : TypeId × Value → H} {W : World} {base : Nat} {spare : Nat → Bool} {held : Bool} (n : Nat) (cs : List Value) (x : DataW H × List MemPlace)
  (h : DataW.trod enc Tryz.prog W base spare held n 58 cs = some x) : ∃ p : Pa, cs = kPa.cells p ∧ True := by
 obtain ⟨xs, m, -, -, hcl, hlen, hF⟩ := DataW.trod_struct Tryz.underlying58 h
 rw [cellsPace] at hcl
 obtain ⟨c0, c1, c2, rfl⟩ := three hcl
 have hlen' : xs.length = 3 := hlen
 have g0 := hF 0 _ rfl
 have g1 := hF 1 _ rfl
 have g2 := hF 2 _ rfl
 obtain ⟨x0, rfl, -⟩ := field_int (v := c0) g0 hlen' (by omega)
 obtain ⟨x1, rfl, -⟩ := field_int (v := c1) g1 hlen' (by omega)
 obtain ⟨x2, rfl, -⟩ := field_int (v := c2) g2 hlen' (by omega)
 exact ⟨⟨x0, x1, x2⟩, rfl, trivial⟩
theorem open_do {H : Type} {enc : TypeId × Value → H} {W : World} {base : Nat} {spare : Nat → Bool} {held : Bool} (n : Nat) (cs : List Value) (x : DataW H × List MemPlace)
  (h : DataW.trod enc Tryz.prog W base spare held n 74 cs = some x) : ∃ d : Dd, cs = kDd.cells d ∧ FitD d := by
 obtain ⟨xs, m, -, -, hcl, hlen, hF⟩ := DataW.trod_struct Tryz.underlying74 h
 rw [cellsDo] at hcl
 obtain ⟨c0, c1, c2, c3, c4, c5, rfl⟩ := six hcl
 have hlen' : xs.length = 6 := hlen
 have g0 := hF 0 _ rfl
 have g1 := hF 1 _ rfl
 have g2 := hF 2 _ rfl
 have g3 := hF 3 _ rfl
 have g4 := hF 4 _ rfl
 have g5 := hF 5 _ rfl
 obtain ⟨x0, rfl, hx⟩ := field_int (v := c0) g0 hlen' (by omega)
 obtain ⟨x1, rfl, -⟩ := field_int (v := c1) g1 hlen' (by omega)
 obtain ⟨x2, rfl, -⟩ := field_int (v := c2) g2 hlen' (by omega)
 obtain ⟨x3, rfl, -⟩ := field_int (v := c3) g3 hlen' (by omega)
 obtain ⟨x4, rfl, -⟩ := field_int (v := c4) g4 hlen' (by omega)
 obtain ⟨x5, rfl, -⟩ := field_int (v := c5) g5 hlen' (by omega)
 exact ⟨⟨x0, x1, x2, x3, x4, x5⟩, rfl, hx⟩
theorem open_dos {H : Type} {enc : TypeId × Value → H} {W : World} {base : Nat} {spare : Nat → Bool} {held : Bool} {a : Option Addr} {len cap : Nat} {d : DataW H} {p : List MemPlace}
  (h : DataW.Trod enc Tryz.prog W base spare held 25 (.slice a len cap) d p) : ∃ l : List Dd, len = l.length ∧ Gn.Lies kDd W a cap l ∧ ∀ d ∈ l, FitD d := by
 obtain ⟨fuel, hf⟩ := h
 obtain ⟨L, h1, h2, h3, -⟩ := open_list (⟨0, 0, 0, 0, 0, 0⟩ : Dd) kDd FitD Tryz.underlying25 cellsDo open_do hf
 exact ⟨L, h1, h2, h3⟩
theorem open_setup {H : Type} {enc : TypeId × Value → H} {W : World} {base b0 : Nat} {r : Reach} {spare : Nat → Bool} {held : Bool} {v : Value} {d : DataW H} {p : List MemPlace}
  (hv : Value.okWide Tryz.prog W r b0 24 v) (h : DataW.Trod enc Tryz.prog W base spare held 24 v d p) : ∃ (ps : List Pa) (a : Option Addr) (cap : Nat) (shops c : Int), v = suv (.slice a ps.length cap) shops c ∧ Gn.Lies kPa W a cap ps := by
 obtain ⟨cs, rfl, hsz⟩ := okWide_struct Tryz.underlying24 hv
 obtain ⟨c0, c1, c2, rfl⟩ : ∃ c0 c1 c2, cs = #[c0, c1, c2] := by
  obtain ⟨l⟩ := cs
  obtain ⟨c0, c1, c2, rfl⟩ := three (l := l) (hsz.trans cellsSetup)
  exact ⟨c0, c1, c2, rfl⟩
 obtain ⟨fuel, hf⟩ := h
 obtain ⟨xs, n, -, -, -, hlen, hF⟩ := DataW.trod_struct Tryz.underlying24 hf
 have hlen' : xs.length = 3 := hlen
 have g0 : DataW.trod enc Tryz.prog W base spare held n 22 (List.take (Tryz.prog.cellsOf 22) (List.drop 0 [c0, c1, c2])) = xs[0]? := hF 0 _ rfl
 have g1 := hF 1 _ rfl
 have g2 := hF 2 _ rfl
 simp only [Value.cells] at g1 g2
 rw [cellsPaces] at g0
 have g0 : DataW.trod enc Tryz.prog W base spare held n 22 [c0] = xs[0]? := g0
 obtain ⟨x1, rfl, -⟩ := field_int (v := c1) g1 hlen' (by omega)
 obtain ⟨x2, rfl, -⟩ := field_int (v := c2) g2 hlen' (by omega)
 obtain ⟨y1, hy1⟩ := at_some hlen' (show 0 < 3 by omega)
 have e1 := g0.trans hy1
 have hs : ∃ a len cap, c0 = .slice a len cap := by
  rcases Go.Deep.open_slice Tryz.underlying22 e1 with ⟨hcs, -⟩ | ⟨ad, l, c, m, n, D, Pl, hcs, -⟩
  ·exact ⟨none, 0, 0, by simpa using hcs⟩
  ·exact ⟨some ad, l, c, by simpa using hcs⟩
 obtain ⟨a, len, cap, rfl⟩ := hs
 obtain ⟨L, rfl, hL, -, -⟩ := open_list (⟨0, 0, 0⟩ : Pa) kPa (fun _ => True) Tryz.underlying22 cellsPace open_pa e1
 exact ⟨L, a, cap, x1, x2, rfl, hL⟩
open Go.RowKit Go.Proofs.YtofcnebekmjdoaaGreatDoor.Gn Go.Maps
def psA : List Pa := [⟨10, 5, 1000⟩]
def ddA : List Dd := [⟨0, 1, 0, 0, 0, 100⟩, ⟨0, 2, 0, 0, 0, 60⟩, ⟨0, 3, 0, 0, 2, 40⟩, ⟨0, 5, 0, 0, 0, 0⟩, ⟨0, 6, 1, 0, 0, 0⟩]
theorem setup_any (w : World) : Calls Tryz.prog 54 #[] w fun e w' => ∃ a c, e = .returned (suv (.slice a 1 c) 1 30) ∧ Gn.Lies kPa w' a c psA ∧ Below w.heap.size w w' := by
 go_enter Tryz.func54, Tryz.ntmps54
 go_wp2_with fail
 have e1 := below_alloc w (.cells #[.slice (some ⟨w.heap.size + 1, 0, none⟩) 1 1, .int .i64 1, .int .i64 30] 24)
 have e2 := below_alloc (w.alloc (.cells #[.slice (some ⟨w.heap.size + 1, 0, none⟩) 1 1, .int .i64 1, .int .i64 30] 24)) (.cells #[.int .i64 10, .int .i64 5, .int .i64 1000] 58)
 have hp : Gn.Lies kPa ((w.alloc (.cells #[.slice (some ⟨w.heap.size + 1, 0, none⟩) 1 1, .int .i64 1, .int .i64 30] 24)).alloc (.cells #[.int .i64 10, .int .i64 5, .int .i64 1000] 58)) (some ⟨w.heap.size + 1, 0, none⟩) 1 psA := lies_one (K := kPa) (x := ⟨10, 5, 1000⟩) (cs := #[.int .i64 10, .int .i64 5, .int .i64 1000]) (heap_alloc_at _ _ _ (by simp)) rfl _
 have hs : ((w.alloc (.cells #[.slice (some ⟨w.heap.size + 1, 0, none⟩) 1 1, .int .i64 1, .int .i64 30] 24)).alloc (.cells #[.int .i64 10, .int .i64 5, .int .i64 1000] 58)).heap[w.heap.size]? = some (suo (.slice (some ⟨w.heap.size + 1, 0, none⟩) 1 1) 1 30) := (e2.block _ (by simp)).trans (heap_alloc_at _ _ _ rfl)
 have hb := e1.trans (e2.mono (by simp))
 obtain ⟨s0, s1, s2⟩ := sul_cells hs
 generalize (w.alloc (.cells #[.slice (some ⟨w.heap.size + 1, 0, none⟩) 1 1, .int .i64 1, .int .i64 30] 24)).alloc (.cells #[.int .i64 10, .int .i64 5, .int .i64 1000] 58) = X at *
 exact bodyPost_ret (v := suv (.slice (some ⟨w.heap.size + 1, 0, none⟩) 1 1) 1 30) (by unfold suv; simp [results, Tryz.results54, go_sem, s0, s1, s2]; try rfl) rfl ⟨_, _, rfl, hp, hb⟩
theorem lies_blk {α : Type} {K : Kind α} {w : World} {b : Nat} {L : List α} {t : TypeId} {cs : Array Value} (h : w.heap[b]? = some (.cells cs t)) (hc : cs.toList = K.flat L) (hl : L.length ≤ maxLen) (c : Nat) : Gn.Lies K w (some ⟨b, 0, none⟩) c L := by
 refine ⟨hl, (fun h => by cases h), Or.inr ⟨b, 0, rfl, lt_of_block h, fun j u hj => ?_⟩⟩
 rw [← hc] at hj
 rw [Nat.zero_add, cell_of_row w b j cs t _ h]
 simpa using hj
theorem got_box (w : World) (zs : Array Value) (hz : zs.size = 19) (b : Bank) (v : Vs) (f : Int × Int) :
  ((w.alloc (.cells zs 43)).alloc (.cells #[.int .i64 0, .int .i64 0] 47)).there w.heap.size 0 (cellsK b v).size ∧
  (((w.alloc (.cells zs 43)).alloc (.cells #[.int .i64 0, .int .i64 0] 47)).setCells w.heap.size 0 (cellsK b v).toList).heap[w.heap.size + 1]? = some (fo (0, 0)) ∧
  (((((w.alloc (.cells zs 43)).alloc (.cells #[.int .i64 0, .int .i64 0] 47)).setCells w.heap.size 0 (cellsK b v).toList).setCell ⟨w.heap.size + 1, 0, none⟩ (.int .i64 f.1)).setCell ⟨w.heap.size + 1, 1, none⟩ (.int .i64 f.2)).heap[w.heap.size]? = some (bko b v) ∧
  (((((w.alloc (.cells zs 43)).alloc (.cells #[.int .i64 0, .int .i64 0] 47)).setCells w.heap.size 0 (cellsK b v).toList).setCell ⟨w.heap.size + 1, 0, none⟩ (.int .i64 f.1)).setCell ⟨w.heap.size + 1, 1, none⟩ (.int .i64 f.2)).heap[w.heap.size + 1]? = some (fo f) ∧
  Below w.heap.size w (((((w.alloc (.cells zs 43)).alloc (.cells #[.int .i64 0, .int .i64 0] 47)).setCells w.heap.size 0 (cellsK b v).toList).setCell ⟨w.heap.size + 1, 0, none⟩ (.int .i64 f.1)).setCell ⟨w.heap.size + 1, 1, none⟩ (.int .i64 f.2)) := by
 have e1 := below_alloc w (.cells zs 43)
 have e2 := below_alloc (w.alloc (.cells zs 43)) (.cells #[.int .i64 0, .int .i64 0] 47)
 have h0 : ((w.alloc (.cells zs 43)).alloc (.cells #[.int .i64 0, .int .i64 0] 47)).heap[w.heap.size]? = some (.cells zs 43) := (e2.block _ (by simp)).trans (heap_alloc_at _ _ _ rfl)
 have h1 : ((w.alloc (.cells zs 43)).alloc (.cells #[.int .i64 0, .int .i64 0] 47)).heap[w.heap.size + 1]? = some (fo (0, 0)) := heap_alloc_at _ _ _ (by simp)
 have hb := e1.trans (e2.mono (by simp))
 refine ⟨there_blk h0 (by rw [hz]; exact Nat.le_refl 19), ?_⟩
 rw [putAll_cells]
 have g0 : (putAll ((w.alloc (.cells zs 43)).alloc (.cells #[.int .i64 0, .int .i64 0] 47)) w.heap.size 0 (cellsK b v).toList).heap[w.heap.size]? = some (bko b v) := by
  have := putAll_same (cellsK b v).toList ((w.alloc (.cells zs 43)).alloc (.cells #[.int .i64 0, .int .i64 0] 47)) w.heap.size [] zs.toList [] 43 (by simp [hz]; rfl) (by rw [h0]; simp)
  refine Eq.trans this ?_
  unfold bko
  simp
 have g1 := (putAll_other ((w.alloc (.cells zs 43)).alloc (.cells #[.int .i64 0, .int .i64 0] 47)) w.heap.size 0 (w.heap.size + 1) (cellsK b v).toList (by omega)).trans h1
 have hbY := below_putAll hb w.heap.size 0 (cellsK b v).toList (Nat.le_refl _)
 generalize putAll ((w.alloc (.cells zs 43)).alloc (.cells #[.int .i64 0, .int .i64 0] 47)) w.heap.size 0 (cellsK b v).toList = Y at *
 exact ⟨g1, (heap_setCell_other _ _ _ _ (by simp)).trans ((heap_setCell_other _ _ _ _ (by simp)).trans g0), fo_put g1, (hbY.setCell (p := ⟨w.heap.size + 1, 0, none⟩) (by simp) _).setCell (p := ⟨w.heap.size + 1, 1, none⟩) (by simp) _⟩
theorem alive_plain : (playR psA 1 30 ddA).2.2 = (0, 0) ∧ (playR psA 1 30 ddA).2.1 = [(0, 0), (0, 0), (0, 0), (0, 0), (0, 0)] ∧ (playR psA 1 30 ddA).1.due = [40] ∧ (playR psA 1 30 ddA).1.cards.map (fun c => (c.m, c.h)) = [(60, 20)] := ⟨by kernel_rfl, by kernel_rfl, by kernel_rfl, by kernel_rfl⟩
theorem alive_facts {w w' : World} {v : Vs} {cs : List CV} {ds : List DV} {va : Value} (SH : Shows w (playR psA 1 30 ddA).1 v cs ds) (AP : Ap kAn (fun _ => 0) w va (playR psA 1 30 ddA).2.1 0) (hb : Below w.heap.size w w') :
  ∃ z1 o1 c1 z2 o2 c2 z3 o3 c3, va = .slice (some ⟨z1, o1, none⟩) 5 c1 ∧ w'.cell? ⟨z1, o1 + 8, none⟩ = some (.int .i64 0) ∧ v.d = .slice (some ⟨z2, o2, none⟩) 1 c2 ∧ w'.cell? ⟨z2, o2, none⟩ = some (.int .i64 40) ∧ v.c = .slice (some ⟨z3, o3, none⟩) 1 c3 ∧ w'.cell? ⟨z3, o3, none⟩ = some (.int .i64 60) ∧ w'.cell? ⟨z3, o3 + 1, none⟩ = some (.int .i64 20) := by
 obtain ⟨-, p2, p3, p4⟩ := alive_plain
 rw [p2] at AP
 have SH' := SH.below hb
 have hd := SH'.due
 have hc := SH'.cards
 have hcs := SH'.csv
 rw [p3] at hd
 have hcm : cs.map (fun x => (x.c.m, x.c.h)) = [(60, 20)] := by rw [← p4, ← hcs, List.map_map]; rfl
 obtain ⟨x, rfl⟩ : ∃ x, cs = [x] := by
  cases cs with
  | nil => simp at hcm
  | cons x r => cases r with
   | nil => exact ⟨x, rfl⟩
   | cons y r => simp at hcm
 simp at hcm
 obtain ⟨a1, c1, h1, l1⟩ := AP.lies
 obtain ⟨a2, c2, h2, l2⟩ := hd.lies
 obtain ⟨a3, c3, h3, l3⟩ := hc.lies
 obtain ⟨z1, o1, rfl, -, f1⟩ := (l1.below hb).elem (i := 4) (x := (0, 0)) rfl
 obtain ⟨z2, o2, rfl, -, f2⟩ := l2.elem (i := 0) (x := 40) rfl
 obtain ⟨z3, o3, rfl, -, f3⟩ := l3.elem (i := 0) (x := x) rfl
 refine ⟨z1, o1, c1, z2, o2, c2, z3, o3, c3, h1, f1 0 _ rfl, h2, by simpa using f2 0 _ rfl, h3, ?_, ?_⟩
 ·have := f3 0 _ rfl
  simpa [hcm.1] using this
 ·have := f3 1 _ rfl
  simpa [hcm.2] using this
theorem alive_any (w : World) (O : Oth w) : Calls Tryz.prog 23 #[] w fun e w' => e = .returned (.bool true) ∧ Below w.heap.size w w' := by
 have hS := setup_any w
 have hP := fun (W : World) (a : Option Addr) (c : Nat) (al : Option Addr) (h : Gn.Lies kPa W a c psA) (hd : Gn.Lies kDd W al 5 ddA) (hO : Oth W) => play_any psA a c 1 30 al 5 ddA W h hd (by intro d hd; simp [ddA] at hd; rcases hd with rfl | rfl | rfl | rfl | rfl <;> exact ⟨by decide, by decide⟩) hO
 have hF := fun (W W' : World) (v : Vs) (cs : List CV) (ds : List DV) (va : Value) (SH : Shows W (playR psA 1 30 ddA).1 v cs ds) (AP : Ap kAn (fun _ => 0) W va (playR psA 1 30 ddA).2.1 0) (hb : Below W.heap.size W W') => alive_facts SH AP hb
 have hf := alive_plain.1
 generalize playR psA 1 30 ddA = r at *
 have hl1 : psA.length = 1 := rfl
 have hl2 : ddA.length = 5 := rfl
 rw [hl1, hl2] at hP
 unfold suv at hS hP
 unfold Plays at hP
 rw [hf] at hP
 clear hf hl1 hl2
 obtain ⟨b, A, f⟩ := r
 dsimp only at hP hF
 simp only [bkv_cells] at hP
 unfold Dy.fv at hP
 go_enter Tryz.func23, Tryz.ntmps23
 go_upto_region 1 with fail
 go_upto_region 2 with fail
 refine hS.mono ?_
 rintro _ w1 ⟨a, c, rfl, hl, hb1⟩
 have e1 := below_alloc w1 (.cells #[.int .i64 0, .int .i64 1, .int .i64 0, .int .i64 0, .int .i64 0, .int .i64 100, .int .i64 0, .int .i64 2, .int .i64 0, .int .i64 0, .int .i64 0, .int .i64 60, .int .i64 0, .int .i64 3, .int .i64 0, .int .i64 0, .int .i64 2, .int .i64 40, .int .i64 0, .int .i64 5, .int .i64 0, .int .i64 0, .int .i64 0, .int .i64 0, .int .i64 0, .int .i64 6, .int .i64 1, .int .i64 0, .int .i64 0, .int .i64 0] 74)
 have hd1 : Gn.Lies kDd (w1.alloc (.cells #[.int .i64 0, .int .i64 1, .int .i64 0, .int .i64 0, .int .i64 0, .int .i64 100, .int .i64 0, .int .i64 2, .int .i64 0, .int .i64 0, .int .i64 0, .int .i64 60, .int .i64 0, .int .i64 3, .int .i64 0, .int .i64 0, .int .i64 2, .int .i64 40, .int .i64 0, .int .i64 5, .int .i64 0, .int .i64 0, .int .i64 0, .int .i64 0, .int .i64 0, .int .i64 6, .int .i64 1, .int .i64 0, .int .i64 0, .int .i64 0] 74)) (some ⟨w1.heap.size, 0, none⟩) 5 ddA := lies_blk (K := kDd) (L := ddA) (heap_alloc_at _ _ _ rfl) (by kernel_rfl) (by simp [ddA, maxLen]) _
 have hP1 := hP _ _ _ _ (hl.below e1) hd1 (O.keep ((e1.block 0 (Nat.lt_of_lt_of_le O.lt hb1.size)).trans (hb1.block 0 O.lt)))
 have hb2 : Below w.heap.size w (w1.alloc (.cells #[.int .i64 0, .int .i64 1, .int .i64 0, .int .i64 0, .int .i64 0, .int .i64 100, .int .i64 0, .int .i64 2, .int .i64 0, .int .i64 0, .int .i64 0, .int .i64 60, .int .i64 0, .int .i64 3, .int .i64 0, .int .i64 0, .int .i64 2, .int .i64 40, .int .i64 0, .int .i64 5, .int .i64 0, .int .i64 0, .int .i64 0, .int .i64 0, .int .i64 0, .int .i64 6, .int .i64 1, .int .i64 0, .int .i64 0, .int .i64 0] 74)) := hb1.trans (e1.mono hb1.size)
 clear hP hS hl hd1 e1
 go_upto_region 2 with (first
  | (go_at_call 18; refine hP1.mono ?_; rintro _ w2 ⟨v, cs, ds, va, rfl, SH, AP, hb3⟩; obtain ⟨G1, G2, G3, G4, G5⟩ := got_box w2 #[.int .i64 0, .bool false, .slice none 0 0, .slice none 0 0, .slice none 0 0, .int .i64 0, .slice none 0 0, .int .i64 0, .slice none 0 0, .int .i64 0, .int .i64 0, .slice none 0 0, .slice none 0 0, .int .i64 0, .slice none 0 0, .slice none 0 0, .slice none 0 0, .slice none 0 0, .slice none 0 0] rfl b v (0, 0); have hF1 := hF _ _ _ _ _ _ SH AP G5; replace G3 := bko_cells G3; obtain ⟨t0, t1, t2, t3⟩ := fo_cells G2; obtain ⟨y0, y1, y2, y3⟩ := fo_cells G4; have hone := hid SH.one; have hinf : Hid ((Tryz.prog.info? 43).map (·.size) = some (cellsK b v).size) := hid infoK; have hb4 : Below w.heap.size w _ := (hb2.trans (hb3.mono hb2.size)).trans (G5.mono ((hb2.trans (hb3.mono hb2.size)).size)); dsimp only at t0 t1 y0 y1 G3 hb4 hF1; clear G4 G5 SH AP G2 hP1 hF; generalize cellsK b v = cc at *)
  | (refine wpList_store_mid rfl 43 _ _ rfl w2.heap.size 0 cc rfl rfl G1 hinf.out hone.out ?_))
 generalize ((((w2.alloc (.cells #[.int .i64 0, .bool false, .slice none 0 0, .slice none 0 0, .slice none 0 0, .int .i64 0, .slice none 0 0, .int .i64 0, .slice none 0 0, .int .i64 0, .int .i64 0, .slice none 0 0, .slice none 0 0, .int .i64 0, .slice none 0 0, .slice none 0 0, .slice none 0 0, .slice none 0 0, .slice none 0 0] 43)).alloc (.cells #[.int .i64 0, .int .i64 0] 47)).setCells w2.heap.size 0 cc.toList).setCell ⟨w2.heap.size + 1, 0, none⟩ (.int .i64 0)).setCell ⟨w2.heap.size + 1, 1, none⟩ (.int .i64 0) = Z at *
 obtain ⟨-, -, c2, c3, -⟩ := G3
 obtain ⟨z1, o1, c1', z2, o2, c2', z3, o3, c3', rfl, f1, hvd, f2, hvc, f3, f4⟩ := hF1
 rw [hvd] at c3
 rw [hvc] at c2
 clear hvd hvc G1 t0 t1 t2 t3 hb3 hb2
 go_wp2_with fail
 exact bodyPost_ret (results_tmp Tryz.results23 _ _ _) rfl ⟨rfl, hb4⟩
end Go.Proofs.YtofcnebekmjdoaaGreatDoor.Bn
