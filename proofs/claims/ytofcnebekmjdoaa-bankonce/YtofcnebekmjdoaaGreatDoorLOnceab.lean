import Derived.Test.YtofcnebekmjdoaaGreatDoorKbj
import Derived.Test.YtofcnebekmjdoaaGreatDoorLOnceaa
set_option maxHeartbeats 4000000
set_option maxRecDepth 100000
namespace Go.Proofs.YtofcnebekmjdoaaGreatDoor
structure Kept (p : Pa) (kept all : List (Int × Int)) : Prop where
 pace : RightP p
 right : ∀ u ∈ all, inU u = true
 kept : all = [] ∧ kept = [] ∨ ∃ A u, all = A ++ [u] ∧ kept = recent (u.1 - p.t) all
 fits : ∀ i, i < all.length → ((recent ((all.getD i (0, 0)).1 - p.t) (all.take (i + 1))).length : Int) ≤ p.c ∧ tot (recent ((all.getD i (0, 0)).1 - p.t) (all.take (i + 1))) ≤ p.s
theorem Kept.few {p : Pa} {kept all : List (Int × Int)} (k : Kept p kept all) : kept.length ≤ all.length := by
 rcases k.kept with ⟨ha, hk⟩ | ⟨A, u, ha, hk⟩
 ·rw [ha, hk]; exact Nat.le_refl _
 ·rw [hk]; exact recent_le _ _
end Go.Proofs.YtofcnebekmjdoaaGreatDoor
namespace Go.Proofs.YtofcnebekmjdoaaGreatDoor.Bn
open Go.Proofs.YtofcnebekmjdoaaGreatDoor
structure Alike (s t : Bank × List (Dd × An)) : Prop where
 bank : s.1 = t.1
 told : ∀ id, id ≠ 0 → told id s.2 = told id t.2
theorem Alike.both {s t : Bank × List (Dd × An)} (h : Alike s t) (d : Dd) : Alike (play1 s d) (play1 t d) := by
 have ht : (if d.id = 0 then none else Bn.told d.id s.2) = (if d.id = 0 then none else Bn.told d.id t.2) := by
  split
  ·rfl
  ·rename_i e; exact h.told _ e
 unfold play1
 rw [← ht]
 split
 ·refine ⟨h.bank, fun id hid => ?_⟩
  dsimp only
  rw [told_append, told_append, h.told id hid]
 ·refine ⟨by dsimp only; rw [h.bank], fun id hid => ?_⟩
  dsimp only
  rw [told_append, told_append, h.told id hid, h.bank]
theorem Alike.again {s t : Bank × List (Dd × An)} (h : Alike s t) {d : Dd} (h0 : d.id ≠ 0) {a : An} (ha : Bn.told d.id t.2 = some a) : Alike s (play1 t d) := by
 unfold play1
 rw [if_neg h0, ha]
 refine ⟨h.bank, fun id hid => ?_⟩
 dsimp only
 rw [told_append, h.told id hid]
 cases e : Bn.told id t.2 with
 | some x => rfl
 | none =>
  dsimp only
  simp only [Bn.told]
  split
  ·rename_i e2; rw [← e2, ha] at e; cases e
  ·rfl
def First (L : List (Dd × An)) : Prop := ∀ x ∈ L, x.1.id ≠ 0 → told x.1.id L = some x.2
theorem first_play {s : Bank × List (Dd × An)} (h : First s.2) (d : Dd) : First (play1 s d).2 := by
 intro x hx h0
 unfold play1 at hx ⊢
 split at hx
 ·rename_i a e
  dsimp only at hx ⊢
  rcases List.mem_append.1 hx with hx | hx
  ·rw [told_append, h x hx h0]
  ·obtain rfl := List.mem_singleton.1 hx
   dsimp only at h0 ⊢
   rw [if_neg h0] at e
   rw [told_append, e]
 ·rename_i e
  dsimp only at hx ⊢
  rcases List.mem_append.1 hx with hx | hx
  ·rw [told_append, h x hx h0]
  ·obtain rfl := List.mem_singleton.1 hx
   dsimp only at h0 ⊢
   rw [if_neg h0] at e
   rw [told_append, e]
   simp [told]
theorem first_all (l : List Dd) : ∀ s : Bank × List (Dd × An), First s.2 → First (l.foldl play1 s).2 := by
 induction l with
 | nil => intro s h; exact h
 | cons d r ih => intro s h; exact ih _ (first_play h d)
theorem first_playL (b : Bank) (l : List Dd) : First (playL b l).2 := first_all l (b, []) fun x hx => by cases hx
end Go.Proofs.YtofcnebekmjdoaaGreatDoor.Bn
namespace Go.Proofs.YtofcnebekmjdoaaGreatDoor
open Go.RowKit
theorem same_any (a : Option Addr) (cap : Nat) (L : List (Int × Int)) (a2 : Option Addr) (cap2 : Nat) (w : World) (hl : Ents w a L) (hE : Ents w a2 L) :
  Calls Tryz.prog 89 #[.slice a L.length cap, .slice a2 L.length cap2] w fun e w' => e = .returned (.bool true) ∧ Below w.heap.size w w' := by
 obtain ⟨hm, hl⟩ := hl
 obtain ⟨-, hE⟩ := hE
 unfold maxLen at hm
 go_enter Tryz.func89, Tryz.ntmps89
 go_wp2
 go_loopw [13] (fun i wr => ∃ k : Nat, k ≤ L.length ∧ i = .int .i64 k ∧ Below w.heap.size w wr) (fun i _ => L.length - (intOf i).toNat)
 case atStart => exact ⟨0, Nat.zero_le _, rfl, Below.refl _ _⟩
 case round =>
  obtain ⟨k, hk, rfl, hb⟩ := hrel
  by_cases hlt : k < L.length
  ·rcases hl with rfl | ⟨b, off, rfl, hbl, hcell⟩
   ·simp at hlt
   rcases hE with rfl | ⟨b2, off2, rfl, hbl2, hcell2⟩
   ·simp at hlt
   obtain ⟨c1, c2⟩ := hcell k hlt
   obtain ⟨c3, c4⟩ := hcell2 k hlt
   have hlt' : (k : Int) < L.length := by omega
   have e1 := (hb.cell (p := ⟨b, off + k * 2, none⟩) hbl).trans c1
   have e2 := (hb.cell (p := ⟨b, off + k * 2 + 1, none⟩) hbl).trans c2
   have e3 := (hb.cell (p := ⟨b2, off2 + k * 2, none⟩) hbl2).trans c3
   have e4 := (hb.cell (p := ⟨b2, off2 + k * 2 + 1, none⟩) hbl2).trans c4
   clear c1 c2 c3 c4 hcell hcell2
   generalize (L.getD k (0, 0)).1 = x1 at *
   generalize (L.getD k (0, 0)).2 = x2 at *
   go_wp2
   go_quiet (fail)
   go_wp2
   go_roundw
   case rel => exact ⟨k + 1, by omega, by go_num, below_drewN hb _⟩
   case measure => simp [intOf]; omega
  ·go_wp2
   go_ret
   exact ⟨rfl, hb⟩
theorem sameC_any (c : Ca) (a : Option Addr) (cap : Nat) (a2 : Option Addr) (cap2 : Nat) (w : World) (h1 : Lies w a cap c.u) (h2 : Lies w a2 cap2 c.u) :
  Calls Tryz.prog 52 #[cv c a cap, cv c a2 cap2] w fun e w' => e = .returned (.bool true) ∧ Below w.heap.size w w' := by
 have hE : ∀ o o', Ents ((w.alloc o).alloc o') a c.u := fun o o' => (h1.ents.below (below_alloc _ _)).below (below_alloc _ _)
 have hE2 : ∀ o o', Ents ((w.alloc o).alloc o') a2 c.u := fun o o' => (h2.ents.below (below_alloc _ _)).below (below_alloc _ _)
 have b0 : ∀ o o', Below w.heap.size w ((w.alloc o).alloc o') := fun o o' => (below_alloc _ _).trans ((below_alloc _ _).mono (by simp))
 unfold cv
 go_enter Tryz.func52, Tryz.ntmps52
 go_wp2_with (go_at_call 89; refine (same_any a cap c.u a2 cap2 _ (hE _ _) (hE2 _ _)).mono ?_; rintro e w1 ⟨rfl, hb1⟩)
 go_ret
 exact ⟨rfl, (b0 _ _).trans (hb1.mono (by simp; omega))⟩
def AnswersC (w : World) (r : Ca × Int) (e : Ending) (w' : World) : Prop :=
 ∃ a cap, e = .returned (.tuple #[cv r.1 a cap, .int .i64 r.2]) ∧ Lies w' a cap r.1.u ∧ Below w.heap.size w w'
theorem AnswersO.plain {w w' : World} {a0 : Option Addr} {u0 : List (Int × Int)} {r : Ca × Int} {e : Ending} (h : AnswersO w a0 u0 r e w') : AnswersC w r e w' := by
 obtain ⟨a, cap, h1, h2, -, h4⟩ := h
 exact ⟨a, cap, h1, h2, h4⟩
end Go.Proofs.YtofcnebekmjdoaaGreatDoor
namespace Go.Proofs.YtofcnebekmjdoaaGreatDoor.Bn
open Go.RowKit Go.Proofs.YtofcnebekmjdoaaGreatDoor.Gn
def zPk : Pk := ⟨Po.zeroT, 0⟩
open Go.Proofs.YtofcnebekmjdoaaGreatDoor
theorem run_cons (b : Bank) (d : Dd) (y : List Dd) : run b (d :: y) = run (doB b d).1 y := rfl
open Go.Proofs.YtofcnebekmjdoaaGreatDoor
theorem pend_those (l : List Au.Au) (k : Nat) {s came : Int} (h : s ≤ came) (L : List Po.Tr) : sumOn (pendBy l k came) (Po.those s L) = sumOn (pendBy l k came) L := by
 unfold Po.those
 induction L with
 | nil => rfl
 | cons t r ih =>
  by_cases e : s < t.n
  ·rw [List.filter_cons_of_pos (by simpa using e)]
   simp only [sumOn, ih]
  ·rw [List.filter_cons_of_neg (by simpa using e), ih]
   simp only [sumOn]
   unfold pendBy
   rw [if_neg (by omega)]; omega
theorem pend_more (l : List Au.Au) (k : Nat) {s : Po.Se} (R : Po.Right s) {t : Po.Tr} (ht : t ∈ s.kept) {came : Int} (hn : t.n = came + 1) : sumOn (pendBy l k (came + 1)) s.kept = sumOn (pendBy l k came) s.kept - brings l k t := by
 rw [sum_one (right_rise R) ht (f := pendBy l k (came + 1)) (g := pendBy l k came)]
 ·unfold pendBy
  rw [if_neg (by omega), if_pos (by omega)]; omega
 ·intro x _ hx
  unfold pendBy
  by_cases h1 : came < x.n
  ·rw [if_pos h1, if_pos (by omega)]
  ·rw [if_neg h1, if_neg (by omega)]
theorem pend_stays {b x : Bank} (h : Stays b x) (k : Nat) (came : Int) {L : List Po.Tr} (hL : ∀ t ∈ L, 0 ≤ t.a ∧ t.a < b.auths.length) : sumOn (pendBy x.auths k came) L = sumOn (pendBy b.auths k came) L :=
 sumOn_congr fun t ht => by
  have := h.2 t.a.toNat (by have := hL t ht; omega)
  unfold pendBy brings shopA
  rw [this]
theorem kept_in {b : Bank} (I : Inv b) (i : Bool) : ∀ t ∈ (b.snd i).kept, 0 ≤ t.a ∧ t.a < b.auths.length := fun t ht => by
 have h1 := (right_mem (I.sent.right i) ht).2.1
 unfold Po.far at h1
 exact ⟨by omega, I.sent.auths i t ht⟩
theorem bal_still {b x : Bank} (I : Inv b) (k : Nat) (h1 : x.due = b.due) (h2 : sumOn (captBy k) x.auths = sumOn (captBy k) b.auths) (h3 : Stays b x) (h4 : x.seen true = b.seen true) (h5 : (x.snd false).kept = (b.snd false).kept) : bal k x = bal k b := by
 unfold bal
 rw [h1, h2, h4, h5, pend_stays h3 k _ (kept_in I false)]
theorem bal_same {b x : Bank} (I : Inv b) (k : Nat) (h1 : x.due = b.due) (h2 : x.auths = b.auths) (h4 : x.seen true = b.seen true) (h5 : (x.snd false).kept = (b.snd false).kept) : bal k x = bal k b :=
 bal_still I k h1 (by rw [h2]) (stays_same h2) h4 h5
theorem load_bal {b : Bank} {d : Dd} (I : Inv b) (k : Nat) : bal k (loadB b d).1 = bal k b := by
 unfold loadB
 repeat' split
 all_goals exact bal_same I k rfl rfl rfl rfl
theorem ask_bal {b : Bank} {d : Dd} (I : Inv b) (k : Nat) : bal k (askB b d).1 = bal k b := by
 unfold askB askDown askUp
 split
 ·rfl
 split
 ·split
  ·rfl
  ·split
   ·rfl
   ·exact bal_same I k rfl rfl rfl rfl
 ·split
  ·rfl
  ·rename_i h2
   split
   ·rfl
   ·split
    ·rfl
    ·obtain ⟨n1, -⟩ := newA_zero (Decidable.not_not.1 h2)
     refine bal_still I k rfl ?_ (stays_append rfl) rfl rfl
     show sumOn (captBy k) (b.auths ++ [_]) = _
     rw [sumOn_append, sumOn_one, n1]
     unfold captBy; dsimp only
     split <;> omega
theorem shut_bal {b : Bank} (I : Inv b) (k : Nat) : bal k (shutB b) = bal k b := by
 refine bal_still I k rfl ?_ (stays_shut b) rfl rfl
 show sumOn (captBy k) (b.auths.map _) = _
 rw [sumOn_map]; rfl
theorem tick_bal {b : Bank} {d : Dd} (I : Inv b) (k : Nat) (h : (tickB b d).2 = 0) : bal k (tickB b d).1 = bal k b := by
 have h0 := h
 unfold tickB at h ⊢
 split
 ·rfl
 ·rename_i h1
  rw [if_neg h1] at h
  have I' : Inv { b with time := b.time + d.sum } := by
   obtain ⟨H, S, B⟩ := I
   refine ⟨⟨H.cards8, H.due8, H.right, H.few, H.auths, H.held, H.stand, H.standN, fun x hx => ⟨(H.advs x hx).1, ?_⟩, H.noadv, ?_, ?_, H.today⟩, ⟨S.right, S.seen0, S.seen1, S.keeps, S.auths, S.kind0, S.kind1, S.ways, S.way60⟩, ⟨B.right, B.accC, B.accS, B.acc1, B.acc2⟩⟩
   ·have := (H.advs x hx).2; show x.t ≤ b.time + d.sum; omega
   ·have := H.time0; show 0 ≤ b.time + d.sum; omega
   ·show b.time + d.sum ≤ 1000000; omega
  split
  ·exact bal_same I k rfl rfl rfl rfl
  ·exact (shut_bal I' k).trans (bal_same I k rfl rfl rfl rfl)
theorem up_bal {b : Bank} (I : Inv b) (k : Nat) : bal k (upB b).1 = bal k b := by
 unfold upB
 split
 ·rename_i h1
  refine (shut_bal (up_mid I h1) k).trans ?_
  refine bal_still I k rfl ?_ (stays_append rfl) rfl rfl
  show sumOn (captBy k) (b.auths ++ b.stand.adv.map advA) = _
  rw [sumOn_append, sumOn_map, sumOn_zero (f := fun x => captBy k (advA x)) (fun x _ => by unfold captBy advA; dsimp only; split <;> omega)]; omega
 ·rfl
theorem pay_bal {b : Bank} {d : Dd} (k : Nat) (h : (payB b d).2 = 0) : bal k (payB b d).1 = bal k b - (if d.n = (k : Int) then b.dueOf d.n else 0) := by
 unfold payB at h ⊢
 split at h
 ·cases h
 rename_i h1
 rw [if_neg h1]
 split at h
 ·cases h
 rename_i h2
 rw [if_neg h2]
 split at h
 ·rename_i h3; exact absurd h h3
 rename_i h3
 rw [if_neg h3]
 show (b.due.set d.n.toNat 0).getD k 0 - _ + _ = bal k b - _
 rw [getD_set _ _ _ _ _ (by omega)]
 unfold bal
 by_cases e : d.n.toNat = k
 ·rw [if_pos e, if_pos (by omega)]; unfold Bank.dueOf; rw [e]; dsimp only; omega
 ·rw [if_neg e, if_neg (by omega)]; dsimp only; omega
theorem comes_bal {b : Bank} {i : Bool} {t : Po.Tr} (I : Inv b) (k : Nat) (ht : t ∈ (b.snd (!i)).kept) (hn : t.n = b.seen i + 1) (h : (comes b i t).2 = 0) : bal k (comes b i t).1 = bal k b := by
 have hin := kept_in I (!i) t ht
 obtain ⟨r1, -, -, r4⟩ := I.held.auth hin.1 hin.2
 have hs0 : 0 ≤ (b.auth t.a).shop := r1.2.2.2.2.2.1.1
 have hsi : (b.auth t.a).shop.toNat < b.due.length := by omega
 have hsh : shopA b.auths t.a = (b.auth t.a).shop := rfl
 unfold comes at h ⊢
 cases i with
 | false =>
  have hk := I.sent.kind1 t ht
  rw [if_neg (by omega), if_pos hk] at h ⊢
  split at h
  ·rename_i q; exact absurd h q
  rename_i q
  rw [if_neg q]
  split at h
  ·rename_i q2; exact absurd h q2
  rename_i q2
  rw [if_neg q2]
  refine bal_same I k rfl rfl ?_ rfl
  show upd b.seen false (b.seen false + 1) true = b.seen true
  exact upd_other b.seen false _
 | true =>
  have hp := pend_more b.auths k (I.sent.right false) ht hn
  have hse : upd b.seen true (b.seen true + 1) true = b.seen true + 1 := upd_same _ _ _
  rcases I.sent.kind0 t ht with hk | hk
  ·rw [if_pos hk] at h ⊢
   split at h
   ·rename_i q; exact absurd h q
   rename_i q
   rw [if_neg q]
   show (b.due.set (b.auth t.a).shop.toNat _).getD k 0 - sumOn (captBy k) b.auths + sumOn (pendBy b.auths k (upd b.seen true (b.seen true + 1) true)) (b.snd false).kept = bal k b
   rw [hse, hp, getD_set _ _ _ _ _ hsi]
   unfold bal brings
   rw [hsh, if_pos hk]
   by_cases e : (b.auth t.a).shop.toNat = k
   ·rw [if_pos e, if_pos (by omega)]; unfold Bank.dueOf; rw [e]; omega
   ·rw [if_neg e, if_neg (by omega)]; omega
  ·rw [if_neg (by omega), if_neg (by omega), if_pos hk] at h ⊢
   split at h
   ·rename_i q; exact absurd h q
   rename_i q
   rw [if_neg q]
   show (b.due.set (b.auth t.a).shop.toNat _).getD k 0 - sumOn (captBy k) b.auths + sumOn (pendBy b.auths k (upd b.seen true (b.seen true + 1) true)) (b.snd false).kept = bal k b
   rw [hse, hp, getD_set _ _ _ _ _ hsi]
   unfold bal brings
   rw [hsh, if_neg (show ¬ t.k = 1 by omega), if_pos hk]
   by_cases e : (b.auth t.a).shop.toNat = k
   ·rw [if_pos e, if_pos (by omega)]; unfold Bank.dueOf; rw [e]; omega
   ·rw [if_neg e, if_neg (by omega)]; omega
theorem arrive_bal {b : Bank} {d : Dd} {lost : Bool} (I : Inv b) (k : Nat) (h : (arriveB b d lost).2 = 0) : bal k (arriveB b d lost).1 = bal k b := by
 unfold arriveB at h ⊢
 by_cases h1 : d.n < 0 ∨ 1 < d.n
 ·rw [if_pos h1]
 rw [if_neg h1] at h ⊢
 generalize sideOf d.n = i at *
 cases hw : b.way i with
 | nil => rfl
 | cons p r =>
  rw [hw] at h
  dsimp only at h ⊢
  cases lost with
  | true => rw [if_pos rfl]; exact bal_same (x := gone b i) I k rfl rfl rfl rfl
  | false =>
   rw [if_neg (by simp)] at h ⊢
   have hp := I.sent.ways i p (by rw [hw]; exact List.mem_cons_self)
   unfold arriveAt at h ⊢
   by_cases h2 : 0 ≤ p.seen
   ·rw [if_pos h2] at h ⊢
    split at h
    ·rename_i h3; exact absurd h h3
    rename_i h3
    rw [if_neg h3]
    obtain ⟨-, -, -, hb⟩ := backS_zero (Decidable.not_not.1 h3)
    have hn : p.seen ≤ b.seen (!i) := by
     rcases hp with ⟨g1, -⟩ | ⟨-, g2⟩
     ·omega
     ·exact g2
    show b.due.getD k 0 - sumOn (captBy k) b.auths + sumOn (pendBy b.auths k (b.seen true)) (upd b.snd i (Po.backS (b.snd i) p.seen).1 false).kept = bal k b
    unfold bal
    cases i with
    | true =>
     have : upd b.snd true (Po.backS (b.snd true) p.seen).1 false = b.snd false := upd_other b.snd true _
     rw [this]
    | false =>
     rw [upd_same, hb]
     show _ + sumOn _ (Po.those p.seen (b.snd false).kept) = _
     have hn2 : p.seen ≤ b.seen true := hn
     rw [pend_those _ _ hn2]
   ·rw [if_neg h2] at h ⊢
    by_cases h3 : p.t.n ≠ b.seen i + 1 ∨ 1000000 ≤ b.seen i
    ·rw [if_pos h3]; exact bal_same I k rfl rfl rfl rfl
    ·rw [if_neg h3] at h ⊢
     refine comes_bal I k ?_ (by omega) h
     rcases hp with ⟨-, g1 | g1⟩ | ⟨g1, -⟩
     ·omega
     ·exact g1
     ·omega
def captD (k n : Int) : Int := if k = 2 ∨ k = 3 then n else if k = 5 ∨ k = 7 then -n else 0
theorem step_capt {a : Au.Au} {k n : Int} (h1 : 1 ≤ k) (h2 : k ≤ 8) : (Au.step a k n).cap - (Au.step a k n).ref = a.cap - a.ref + captD k n := by
 unfold captD
 rcases eight h1 h2 with rfl | rfl | rfl | rfl | rfl | rfl | rfl | rfl <;> simp [Au.step] <;> omega
def pendD (k n : Int) : Int := if k = 2 ∨ k = 3 then n else if k = 7 then -n else 0
theorem put_pend {b : Bank} (S : Sent b) (l : List Au.Au) (k : Nat) {t : Po.Tr} (h : (Po.putS (b.snd false) t).2 = 0) :
  sumOn (pendBy l k (b.seen true)) (Po.putS (b.snd false) t).1.kept = sumOn (pendBy l k (b.seen true)) (b.snd false).kept + brings l k t := by
 obtain ⟨p1, -⟩ := put_zero h
 rw [p1]
 show sumOn _ ((b.snd false).kept ++ [Po.nextT (b.snd false) t]) = _
 rw [sumOn_append, sumOn_one]
 have hc : b.seen true < (Po.nextT (b.snd false) t).n := by
  have := S.seen1 true
  show _ < (b.snd false).sent + 1
  simp only [Bool.not_true] at this; omega
 have : pendBy l k (b.seen true) (Po.nextT (b.snd false) t) = brings l k t := by unfold pendBy; rw [if_pos hc]; rfl
 rw [this]
theorem send_pend {b : Bank} (S : Sent b) (l : List Au.Au) (k : Nat) {kind auth n : Int} (h : (sendBy b.snd kind auth n).2 = 0) :
  sumOn (pendBy l k (b.seen true)) ((sendBy b.snd kind auth n).1 false).kept = sumOn (pendBy l k (b.seen true)) (b.snd false).kept + (if shopA l auth = (k : Int) then pendD kind n else 0) := by
 unfold sendBy at h ⊢
 unfold pendD
 by_cases k1 : kind = 2 ∨ kind = 3
 ·rw [if_pos k1] at h ⊢
  dsimp only
  rw [upd_same, put_pend S l k h, if_pos k1]
  unfold brings; dsimp only; simp
 rw [if_neg k1] at h ⊢
 by_cases k2 : kind = 5
 ·rw [if_pos k2] at h ⊢
  dsimp only
  have : upd b.snd true (Po.putS (b.snd true) ⟨0, 2, auth, n⟩).1 false = b.snd false := upd_other b.snd true _
  rw [this, if_neg k1, if_neg (show ¬ kind = 7 by omega)]; simp
 rw [if_neg k2] at h ⊢
 by_cases k3 : kind = 7
 ·rw [if_pos k3] at h ⊢
  dsimp only
  rw [upd_same, put_pend S l k h, if_neg k1, if_pos k3]
  unfold brings; dsimp only; simp
 rw [if_neg k3] at h ⊢
 rw [if_neg k1, if_neg k3]; simp
theorem move_bal {b : Bank} {d : Dd} (I : Inv b) (k : Nat) (h : (moveD b d).2 = 0) : bal k (moveD b d).1 = bal k b := by
 unfold moveD at h ⊢
 split at h
 ·cases h
 rename_i q1
 rw [if_neg q1]
 split at h
 ·cases h
 rename_i q2
 rw [if_neg q2]
 split at h
 ·rename_i q; exact absurd h q
 rename_i q3
 rw [if_neg q3]
 split at h
 ·cases h
 rename_i q4
 rw [if_neg q4]
 split at h
 ·rename_i q; exact absurd h q
 rename_i q5
 rw [if_neg q5]
 split at h
 ·rename_i q; exact absurd h q
 rename_i q6
 rw [if_neg q6]
 split at h
 ·rename_i q; exact absurd h q
 rename_i q7
 rw [if_neg q7]
 split at h
 ·cases h
 rename_i q8
 rw [if_neg q8]
 replace q3 := Au.mvErr_zero.1 (Decidable.not_not.1 q3)
 replace q7 : (sendBy b.snd d.mv d.n d.sum).2 = 0 := Decidable.not_not.1 q7
 have hn : d.n.toNat < b.auths.length := by omega
 obtain ⟨r1, -, -, r4⟩ := I.held.auth (k := d.n) (by omega) (by omega)
 have hs0 : 0 ≤ (b.auth d.n).shop := r1.2.2.2.2.2.1.1
 have hsi : (b.auth d.n).shop.toNat < b.due.length := by omega
 have k1 := q3.2.2.1
 have k2 := q3.2.2.2.1
 have hst : Stays b (moveAll b d) := stays_set hn rfl
 have hpx : sumOn (pendBy (moveAll b d).auths k (b.seen true)) ((sendBy b.snd d.mv d.n d.sum).1 false).kept = sumOn (pendBy b.auths k (b.seen true)) ((sendBy b.snd d.mv d.n d.sum).1 false).kept := by
  obtain ⟨w0, -⟩ := send_zero (x := moveAll b d) I.sent q7 (by omega) rfl rfl rfl (by simp [moveAll])
  refine pend_stays hst k _ fun t ht => ?_
  have h1 := (right_mem (w0.right false) ht).2.1
  unfold Po.far at h1
  have h2 := w0.auths false t ht
  have h3 : (moveAll b d).auths.length = b.auths.length := by simp [moveAll]
  exact ⟨by omega, by omega⟩
 have hcap : sumOn (captBy k) (b.auths.set d.n.toNat (aft b d)) = sumOn (captBy k) b.auths + (if (b.auth d.n).shop = (k : Int) then captD d.mv d.sum else 0) := by
  rw [sumOn_set _ _ _ _ zA hn]
  have e1 : (aft b d).shop = (b.auth d.n).shop := step_shop _ _ _
  have e2 : (aft b d).cap - (aft b d).ref = (b.auth d.n).cap - (b.auth d.n).ref + captD d.mv d.sum := step_capt k1 k2
  have e3 : captBy k (b.auths.getD d.n.toNat zA) = captBy k (b.auth d.n) := rfl
  rw [e3]
  unfold captBy
  rw [e1, e2]
  split <;> omega
 show (b.due.set (b.auth d.n).shop.toNat _).getD k 0 - sumOn (captBy k) (b.auths.set d.n.toNat (aft b d)) + sumOn (pendBy (moveAll b d).auths k (b.seen true)) ((sendBy b.snd d.mv d.n d.sum).1 false).kept = bal k b
 rw [hpx, send_pend I.sent b.auths k q7, hcap, getD_set _ _ _ _ _ hsi]
 have hsh : shopA b.auths d.n = (b.auth d.n).shop := rfl
 rw [hsh]
 unfold bal
 by_cases e : (b.auth d.n).shop.toNat = k
 ·rw [if_pos e, if_pos (by omega), if_pos (by omega)]
  have : b.dueOf (b.auth d.n).shop = b.due.getD k 0 := by unfold Bank.dueOf; rw [e]
  rw [this]
  have hz : dueBy d.mv d.sum - captD d.mv d.sum + pendD d.mv d.sum = 0 := by
   unfold dueBy captD pendD
   generalize d.mv = mv at *
   rcases eight k1 k2 with rfl | rfl | rfl | rfl | rfl | rfl | rfl | rfl <;> simp <;> omega
  omega
 ·rw [if_neg e, if_neg (by omega), if_neg (by omega)]; omega
def paysOut (b : Bank) (d : Dd) (k : Nat) : Int := if d.kind = 11 ∧ (doB b d).2.1 = 0 ∧ d.n = (k : Int) then b.dueOf d.n else 0
theorem do_bal {b : Bank} {d : Dd} (I : Inv b) (k : Nat) : bal k (doB b d).1 = bal k b - paysOut b d k := by
 by_cases h : (doB b d).2.1 = 0
 case neg => rw [doB_refused b d h]; unfold paysOut; rw [if_neg (fun hp => h hp.2.1)]; omega
 have hother : d.kind ≠ 11 → bal k (doB b d).1 = bal k b → bal k (doB b d).1 = bal k b - paysOut b d k := fun h1 h2 => by
  rw [h2]; unfold paysOut; rw [if_neg (fun hp => h1 hp.1)]; omega
 by_cases k11 : d.kind = 11
 ·have e : doB b d = two (payB b d) := by
   unfold doB
   rw [if_neg (by omega), if_neg (by omega), if_neg (by omega), if_neg (by omega), if_neg (by omega), if_neg (by omega), if_neg (by omega), if_neg (by omega), if_neg (by omega), if_neg (by omega), if_pos k11]
  unfold paysOut
  rw [e] at h ⊢
  rw [show bal k (two (payB b d)).1 = bal k (payB b d).1 from rfl, pay_bal k h]
  by_cases hk : d.n = (k : Int)
  ·rw [if_pos hk, if_pos ⟨k11, h, hk⟩]
  ·rw [if_neg hk, if_neg (fun hp => hk hp.2.2)]
 refine hother k11 ?_
 unfold doB at h ⊢
 split at h
 ·rename_i e; rw [if_pos e]; exact load_bal I k
 rename_i e; rw [if_neg e]
 split at h
 ·rename_i e; rw [if_pos e]; exact ask_bal I k
 rename_i e; rw [if_neg e]
 split at h
 ·rename_i e; rw [if_pos e]; exact move_bal I k h
 rename_i e; rw [if_neg e]
 split at h
 ·rename_i e; rw [if_pos e]; exact tick_bal I k h
 rename_i e; rw [if_neg e]
 split at h
 ·rename_i e; rw [if_pos e]
  unfold two sendB
  repeat' split
  all_goals exact bal_same I k rfl rfl rfl rfl
 rename_i e; rw [if_neg e]
 split at h
 ·rename_i e; rw [if_pos e]; exact arrive_bal I k h
 rename_i e; rw [if_neg e]
 split at h
 ·rename_i e; rw [if_pos e]; exact arrive_bal I k h
 rename_i e; rw [if_neg e]
 split at h
 ·rename_i e; rw [if_pos e]
  unfold two downB
  repeat' split
  all_goals exact bal_same I k rfl rfl rfl rfl
 rename_i e; rw [if_neg e]
 split at h
 ·rename_i e; rw [if_pos e]; exact up_bal I k
 rename_i e; rw [if_neg e]
 split at h
 ·rename_i e; rw [if_pos e]; exact bal_same I k rfl rfl rfl rfl
 rename_i e; rw [if_neg e, if_neg k11]
open Go.Proofs.YtofcnebekmjdoaaGreatDoor
def StaysC (b x : Bank) : Prop := b.auths.length ≤ x.auths.length ∧ ∀ n : Nat, n < b.auths.length → (x.auths.getD n zA).card = (b.auths.getD n zA).card
theorem staysC_same {b x : Bank} (h : x.auths = b.auths) : StaysC b x := by unfold StaysC; rw [h]; exact ⟨Nat.le_refl _, fun _ _ => rfl⟩
theorem staysC_append {b x : Bank} {l : List Au.Au} (h : x.auths = b.auths ++ l) : StaysC b x := by
 unfold StaysC
 rw [h]
 refine ⟨by simp, fun n hn => ?_⟩
 simp [List.getD, List.getElem?_append_left hn]
theorem step_card (a : Au.Au) (k n : Int) : (Au.step a k n).card = a.card := by
 unfold Au.step
 repeat' split
 all_goals rfl
theorem staysC_set {b x : Bank} {i : Nat} {k n : Int} (hi : i < b.auths.length) (h : x.auths = b.auths.set i (Au.step (b.auths.getD i zA) k n)) : StaysC b x := by
 unfold StaysC
 rw [h]
 refine ⟨by simp, fun j hj => ?_⟩
 rw [getD_set _ _ _ _ _ hi]
 split
 ·rename_i e; subst e; exact step_card _ _ _
 ·rfl
theorem staysC_shut (b : Bank) : StaysC b (shutB b) := by
 refine ⟨by simp [shutB], fun n hn => ?_⟩
 show ((b.auths.map fun a => Au.lateA a b.time).getD n zA).card = _
 simp [List.getD, hn, Au.lateA]
theorem pendC_those (l : List Au.Au) (k : Nat) {s came : Int} (h : s ≤ came) (L : List Po.Tr) : sumOn (pendC l k came) (Po.those s L) = sumOn (pendC l k came) L := by
 unfold Po.those
 induction L with
 | nil => rfl
 | cons t r ih =>
  by_cases e : s < t.n
  ·rw [List.filter_cons_of_pos (by simpa using e)]
   simp only [sumOn, ih]
  ·rw [List.filter_cons_of_neg (by simpa using e), ih]
   simp only [sumOn]
   unfold pendC
   rw [if_neg (by omega)]; omega
theorem pendC_more (l : List Au.Au) (k : Nat) {s : Po.Se} (R : Po.Right s) {t : Po.Tr} (ht : t ∈ s.kept) {came : Int} (hn : t.n = came + 1) : sumOn (pendC l k (came + 1)) s.kept = sumOn (pendC l k came) s.kept - gives l k t := by
 rw [sum_one (right_rise R) ht (f := pendC l k (came + 1)) (g := pendC l k came)]
 ·unfold pendC
  rw [if_neg (by omega), if_pos (by omega)]; omega
 ·intro x _ hx
  unfold pendC
  by_cases h1 : came < x.n
  ·rw [if_pos h1, if_pos (by omega)]
  ·rw [if_neg h1, if_neg (by omega)]
theorem pendC_stays {b x : Bank} (h : StaysC b x) (k : Nat) (came : Int) {L : List Po.Tr} (hL : ∀ t ∈ L, 0 ≤ t.a ∧ t.a < b.auths.length) : sumOn (pendC x.auths k came) L = sumOn (pendC b.auths k came) L :=
 sumOn_congr fun t ht => by
  have := h.2 t.a.toNat (by have := hL t ht; omega)
  unfold pendC gives cardA
  rw [this]
theorem cbal_still {b x : Bank} (I : Inv b) (k : Nat) (h1 : (x.cards.getD k zeroC).m = (b.cards.getD k zeroC).m) (h2 : sumOn (spentBy k) x.auths = sumOn (spentBy k) b.auths) (h3 : StaysC b x) (h4 : x.seen false = b.seen false) (h5 : (x.snd true).kept = (b.snd true).kept) : cbal k x = cbal k b := by
 unfold cbal
 rw [h1, h2, h4, h5, pendC_stays h3 k _ (kept_in I true)]
theorem cbal_same {b x : Bank} (I : Inv b) (k : Nat) (h1 : x.cards = b.cards) (h2 : x.auths = b.auths) (h4 : x.seen false = b.seen false) (h5 : (x.snd true).kept = (b.snd true).kept) : cbal k x = cbal k b :=
 cbal_still I k (by rw [h1]) (by rw [h2]) (staysC_same h2) h4 h5
theorem load_cbal {b : Bank} {d : Dd} (k : Nat) (h : (loadB b d).2 = 0) : cbal k (loadB b d).1 = cbal k b + (if d.n = (k : Int) then d.sum else 0) := by
 unfold loadB at h ⊢
 split at h
 ·cases h
 rename_i h1
 rw [if_neg h1]
 split at h
 ·cases h
 rename_i h2
 rw [if_neg h2]
 split at h
 ·rename_i h3; exact absurd h h3
 rename_i h3
 rw [if_neg h3]
 split at h
 ·rename_i h4; exact absurd h h4
 rename_i h4
 rw [if_neg h4]
 obtain ⟨-, g2, -⟩ := right_of_shift (Decidable.not_not.1 h3)
 show ((b.cards.set d.n.toNat (shiftC (b.card d.n) 0 d.sum).1).getD k zeroC).m + _ + _ = cbal k b + _
 rw [getD_set _ _ _ _ _ (by omega), g2]
 unfold cbal
 by_cases e : d.n.toNat = k
 ·rw [if_pos e, if_pos (by omega)]
  have : (b.card d.n).m = (b.cards.getD k zeroC).m := by unfold Bank.card; rw [e]
  dsimp only
  rw [this]; omega
 ·rw [if_neg e, if_neg (by omega)]; dsimp only; omega
theorem ask_cbal {b : Bank} {d : Dd} (I : Inv b) (k : Nat) : cbal k (askB b d).1 = cbal k b := by
 unfold askB askDown askUp
 split
 ·rfl
 rename_i h1
 split
 ·split
  ·rfl
  ·split
   ·rfl
   ·exact cbal_same I k rfl rfl rfl rfl
 ·split
  ·rfl
  ·rename_i h2
   split
   ·rfl
   ·split
    ·rfl
    ·rename_i h4
     obtain ⟨n1, -⟩ := newA_zero (Decidable.not_not.1 h2)
     obtain ⟨-, -, -, -, -, c2, -⟩ := allow_zero (Decidable.not_not.1 h4)
     refine cbal_still I k ?_ ?_ (staysC_append rfl) rfl rfl
     ·show ((b.cards.set d.n.toNat _).getD k zeroC).m = _
      rw [getD_set _ _ _ _ _ (by omega)]
      split
      ·rename_i e; subst e; rw [c2]; rfl
      ·rfl
     ·show sumOn (spentBy k) (b.auths ++ [_]) = _
      rw [sumOn_append, sumOn_one, n1]
      unfold spentBy; dsimp only
      split <;> omega
theorem shut_cbal {b : Bank} (I : Inv b) (k : Nat) (hk : k < b.cards.length) : cbal k (shutB b) = cbal k b := by
 obtain ⟨-, l2⟩ := fold_late b.time b.auths b.cards fun a ha => ⟨(I.held.auths a ha).1.2.2.2.2.1.1, (I.held.auths a ha).2.2.1⟩
 refine cbal_still I k ?_ ?_ (staysC_shut b) rfl rfl
 ·show ((b.auths.foldl (lateC b.time) b.cards).getD k zeroC).m = _
  rw [l2 k hk]
 ·show sumOn (spentBy k) (b.auths.map _) = _
  rw [sumOn_map]; rfl
theorem tick_cbal {b : Bank} {d : Dd} (I : Inv b) (k : Nat) (hk : k < b.cards.length) : cbal k (tickB b d).1 = cbal k b := by
 unfold tickB
 split
 ·rfl
 ·rename_i h1
  split
  ·exact cbal_same I k rfl rfl rfl rfl
  ·exact (shut_cbal (tick_mid I h1) k hk).trans (cbal_same I k rfl rfl rfl rfl)
theorem up_cbal {b : Bank} (I : Inv b) (k : Nat) (hk : k < b.cards.length) : cbal k (upB b).1 = cbal k b := by
 unfold upB
 split
 ·rename_i h1
  have hf : ∀ x ∈ b.stand.adv, St.Fits x b.stand.used.length := I.held.stand.adv.each
  obtain ⟨l1, l2⟩ := fold_force b.stand.adv b.cards fun x hx => by have := hf x hx; rw [I.held.standN] at this; exact ⟨this.1, this.2.1⟩
  refine (shut_cbal (up_mid I h1) k (by show k < (b.stand.adv.foldl forceL b.cards).length; rw [l1]; exact hk)).trans ?_
  refine cbal_still I k ?_ ?_ (staysC_append rfl) rfl rfl
  ·show ((b.stand.adv.foldl forceL b.cards).getD k zeroC).m = _
   rw [l2 k hk]
  ·show sumOn (spentBy k) (b.auths ++ b.stand.adv.map advA) = _
   rw [sumOn_append, sumOn_map, sumOn_zero (f := fun x => spentBy k (advA x)) (fun x _ => by unfold spentBy advA; dsimp only; split <;> omega)]; omega
 ·rfl
theorem comes_cbal {b : Bank} {i : Bool} {t : Po.Tr} (I : Inv b) (k : Nat) (ht : t ∈ (b.snd (!i)).kept) (hn : t.n = b.seen i + 1) (h : (comes b i t).2 = 0) : cbal k (comes b i t).1 = cbal k b := by
 have hin := kept_in I (!i) t ht
 obtain ⟨r1, -, r3, -⟩ := I.held.auth hin.1 hin.2
 have hc0 : 0 ≤ (b.auth t.a).card := r1.2.2.2.2.1.1
 have hci : (b.auth t.a).card.toNat < b.cards.length := by omega
 have hch : cardA b.auths t.a = (b.auth t.a).card := rfl
 unfold comes at h ⊢
 cases i with
 | true =>
  have hse : upd b.seen true (b.seen true + 1) false = b.seen false := upd_other b.seen true _
  rcases I.sent.kind0 t ht with hk | hk
  ·rw [if_pos hk] at h ⊢
   split at h
   ·rename_i q; exact absurd h q
   rename_i q
   rw [if_neg q]
   exact cbal_same I k rfl rfl hse rfl
  ·rw [if_neg (by omega), if_neg (by omega), if_pos hk] at h ⊢
   split at h
   ·rename_i q; exact absurd h q
   rename_i q
   rw [if_neg q]
   exact cbal_same I k rfl rfl hse rfl
 | false =>
  have hp := pendC_more b.auths k (I.sent.right true) ht hn
  have hse : upd b.seen false (b.seen false + 1) false = b.seen false + 1 := upd_same _ _ _
  have hk := I.sent.kind1 t ht
  rw [if_neg (by omega), if_pos hk] at h ⊢
  split at h
  ·rename_i q; exact absurd h q
  rename_i q
  rw [if_neg q]
  split at h
  ·rename_i q2; exact absurd h q2
  rename_i q2
  rw [if_neg q2]
  obtain ⟨-, g2, -⟩ := right_of_shift (Decidable.not_not.1 q)
  show ((b.cards.set (b.auth t.a).card.toNat (shiftC (b.card (b.auth t.a).card) 0 t.s).1).getD k zeroC).m + sumOn (spentBy k) b.auths + sumOn (pendC b.auths k (upd b.seen false (b.seen false + 1) false)) (b.snd true).kept = cbal k b
  rw [hse, hp, getD_set _ _ _ _ _ hci, g2]
  unfold cbal gives
  rw [hch]
  by_cases e : (b.auth t.a).card.toNat = k
  ·rw [if_pos e, if_pos (by omega)]
   have : (b.card (b.auth t.a).card).m = (b.cards.getD k zeroC).m := by unfold Bank.card; rw [e]
   dsimp only
   rw [this]; omega
  ·rw [if_neg e, if_neg (by omega)]; omega
theorem arrive_cbal {b : Bank} {d : Dd} {lost : Bool} (I : Inv b) (k : Nat) (h : (arriveB b d lost).2 = 0) : cbal k (arriveB b d lost).1 = cbal k b := by
 unfold arriveB at h ⊢
 by_cases h1 : d.n < 0 ∨ 1 < d.n
 ·rw [if_pos h1]
 rw [if_neg h1] at h ⊢
 generalize sideOf d.n = i at *
 cases hw : b.way i with
 | nil => rfl
 | cons p r =>
  rw [hw] at h
  dsimp only at h ⊢
  cases lost with
  | true => rw [if_pos rfl]; exact cbal_same (x := gone b i) I k rfl rfl rfl rfl
  | false =>
   rw [if_neg (by simp)] at h ⊢
   have hp := I.sent.ways i p (by rw [hw]; exact List.mem_cons_self)
   unfold arriveAt at h ⊢
   by_cases h2 : 0 ≤ p.seen
   ·rw [if_pos h2] at h ⊢
    split at h
    ·rename_i h3; exact absurd h h3
    rename_i h3
    rw [if_neg h3]
    obtain ⟨-, -, -, hb⟩ := backS_zero (Decidable.not_not.1 h3)
    have hn : p.seen ≤ b.seen (!i) := by
     rcases hp with ⟨g1, -⟩ | ⟨-, g2⟩
     ·omega
     ·exact g2
    show (b.cards.getD k zeroC).m + sumOn (spentBy k) b.auths + sumOn (pendC b.auths k (b.seen false)) (upd b.snd i (Po.backS (b.snd i) p.seen).1 true).kept = cbal k b
    unfold cbal
    cases i with
    | false =>
     have : upd b.snd false (Po.backS (b.snd false) p.seen).1 true = b.snd true := upd_other b.snd false _
     rw [this]
    | true =>
     rw [upd_same, hb]
     show _ + sumOn _ (Po.those p.seen (b.snd true).kept) = _
     have hn2 : p.seen ≤ b.seen false := hn
     rw [pendC_those _ _ hn2]
   ·rw [if_neg h2] at h ⊢
    by_cases h3 : p.t.n ≠ b.seen i + 1 ∨ 1000000 ≤ b.seen i
    ·rw [if_pos h3]; exact cbal_same I k rfl rfl rfl rfl
    ·rw [if_neg h3] at h ⊢
     refine comes_cbal I k ?_ (by omega) h
     rcases hp with ⟨-, g1 | g1⟩ | ⟨g1, -⟩
     ·omega
     ·exact g1
     ·omega
def spentD (k n : Int) : Int := if k = 2 ∨ k = 3 ∨ k = 8 then n else if k = 5 ∨ k = 6 then -n else 0
theorem step_spent {a : Au.Au} {k n : Int} (h1 : 1 ≤ k) (h2 : k ≤ 8) : (Au.step a k n).cap - (Au.step a k n).ref - (Au.step a k n).dis = a.cap - a.ref - a.dis + spentD k n := by
 unfold spentD
 rcases eight h1 h2 with rfl | rfl | rfl | rfl | rfl | rfl | rfl | rfl <;> simp [Au.step] <;> omega
def pendCD (k n : Int) : Int := if k = 5 then n else 0
theorem send_pendC {b : Bank} (S : Sent b) (l : List Au.Au) (k : Nat) {kind auth n : Int} (h : (sendBy b.snd kind auth n).2 = 0) :
  sumOn (pendC l k (b.seen false)) ((sendBy b.snd kind auth n).1 true).kept = sumOn (pendC l k (b.seen false)) (b.snd true).kept + (if cardA l auth = (k : Int) then pendCD kind n else 0) := by
 have hoth : ∀ x, upd b.snd false x true = b.snd true := fun x => upd_other b.snd false x
 unfold sendBy at h ⊢
 unfold pendCD
 by_cases k1 : kind = 2 ∨ kind = 3
 ·rw [if_pos k1] at h ⊢
  dsimp only
  rw [hoth, if_neg (show ¬ kind = 5 by omega)]; simp
 rw [if_neg k1] at h ⊢
 by_cases k2 : kind = 5
 ·rw [if_pos k2] at h ⊢
  dsimp only
  rw [upd_same, if_pos k2]
  obtain ⟨p1, -⟩ := put_zero h
  rw [p1]
  show sumOn _ ((b.snd true).kept ++ [Po.nextT (b.snd true) ⟨0, 2, auth, n⟩]) = _
  rw [sumOn_append, sumOn_one]
  have hc : b.seen false < (Po.nextT (b.snd true) ⟨0, 2, auth, n⟩).n := by
   have := S.seen1 false
   show _ < (b.snd true).sent + 1
   simp only [Bool.not_false] at this; omega
  have : pendC l k (b.seen false) (Po.nextT (b.snd true) ⟨0, 2, auth, n⟩) = (if cardA l auth = (k : Int) then n else 0) := by unfold pendC; rw [if_pos hc]; rfl
  rw [this]
 rw [if_neg k2] at h ⊢
 by_cases k3 : kind = 7
 ·rw [if_pos k3] at h ⊢
  dsimp only
  rw [hoth, if_neg (show ¬ kind = 5 by omega)]; simp
 rw [if_neg k3] at h ⊢
 rw [if_neg (show ¬ kind = 5 by omega)]; simp
theorem move_cbal {b : Bank} {d : Dd} (I : Inv b) (k : Nat) (h : (moveD b d).2 = 0) : cbal k (moveD b d).1 = cbal k b := by
 unfold moveD at h ⊢
 split at h
 ·cases h
 rename_i q1
 rw [if_neg q1]
 split at h
 ·cases h
 rename_i q2
 rw [if_neg q2]
 split at h
 ·rename_i q; exact absurd h q
 rename_i q3
 rw [if_neg q3]
 split at h
 ·cases h
 rename_i q4
 rw [if_neg q4]
 split at h
 ·rename_i q; exact absurd h q
 rename_i q5
 rw [if_neg q5]
 split at h
 ·rename_i q; exact absurd h q
 rename_i q6
 rw [if_neg q6]
 split at h
 ·rename_i q; exact absurd h q
 rename_i q7
 rw [if_neg q7]
 split at h
 ·cases h
 rename_i q8
 rw [if_neg q8]
 replace q3 := Au.mvErr_zero.1 (Decidable.not_not.1 q3)
 replace q7 : (sendBy b.snd d.mv d.n d.sum).2 = 0 := Decidable.not_not.1 q7
 obtain ⟨-, g2, -⟩ := right_of_shift (Decidable.not_not.1 q5)
 have hn : d.n.toNat < b.auths.length := by omega
 obtain ⟨r1, -, r3, -⟩ := I.held.auth (k := d.n) (by omega) (by omega)
 have hc0 : 0 ≤ (b.auth d.n).card := r1.2.2.2.2.1.1
 have hci : (b.auth d.n).card.toNat < b.cards.length := by omega
 have k1 := q3.2.2.1
 have k2 := q3.2.2.2.1
 have hst : StaysC b (moveAll b d) := staysC_set hn rfl
 have hpx : sumOn (pendC (moveAll b d).auths k (b.seen false)) ((sendBy b.snd d.mv d.n d.sum).1 true).kept = sumOn (pendC b.auths k (b.seen false)) ((sendBy b.snd d.mv d.n d.sum).1 true).kept := by
  obtain ⟨w0, -⟩ := send_zero (x := moveAll b d) I.sent q7 (by omega) rfl rfl rfl (by simp [moveAll])
  refine pendC_stays hst k _ fun t ht => ?_
  have h1 := (right_mem (w0.right true) ht).2.1
  unfold Po.far at h1
  have h2 := w0.auths true t ht
  have h3 : (moveAll b d).auths.length = b.auths.length := by simp [moveAll]
  exact ⟨by omega, by omega⟩
 have hcap : sumOn (spentBy k) (b.auths.set d.n.toNat (aft b d)) = sumOn (spentBy k) b.auths + (if (b.auth d.n).card = (k : Int) then spentD d.mv d.sum else 0) := by
  rw [sumOn_set _ _ _ _ zA hn]
  have e1 : (aft b d).card = (b.auth d.n).card := step_card _ _ _
  have e2 : (aft b d).cap - (aft b d).ref - (aft b d).dis = (b.auth d.n).cap - (b.auth d.n).ref - (b.auth d.n).dis + spentD d.mv d.sum := step_spent k1 k2
  have e3 : spentBy k (b.auths.getD d.n.toNat zA) = spentBy k (b.auth d.n) := rfl
  rw [e3]
  unfold spentBy
  rw [e1, e2]
  split <;> omega
 have hcc : (cardAft b d).1 = ⟨(b.card (b.auth d.n).card).m + cardBy d.mv d.sum, (b.card (b.auth d.n).card).h + (Au.holdA (aft b d) - Au.holdA (b.auth d.n)), (b.card (b.auth d.n).card).p, (b.card (b.auth d.n).card).u⟩ := g2
 show ((b.cards.set (b.auth d.n).card.toNat (cardAft b d).1).getD k zeroC).m + sumOn (spentBy k) (b.auths.set d.n.toNat (aft b d)) + sumOn (pendC (moveAll b d).auths k (b.seen false)) ((sendBy b.snd d.mv d.n d.sum).1 true).kept = cbal k b
 rw [hpx, send_pendC I.sent b.auths k q7, hcap, getD_set _ _ _ _ _ hci, hcc]
 have hsh : cardA b.auths d.n = (b.auth d.n).card := rfl
 rw [hsh]
 unfold cbal
 by_cases e : (b.auth d.n).card.toNat = k
 ·rw [if_pos e, if_pos (by omega), if_pos (by omega)]
  have : (b.card (b.auth d.n).card).m = (b.cards.getD k zeroC).m := by unfold Bank.card; rw [e]
  dsimp only
  rw [this]
  have hz : cardBy d.mv d.sum + spentD d.mv d.sum + pendCD d.mv d.sum = 0 := by
   unfold cardBy spentD pendCD
   generalize d.mv = mv at *
   rcases eight k1 k2 with rfl | rfl | rfl | rfl | rfl | rfl | rfl | rfl <;> simp <;> omega
  omega
 ·rw [if_neg e, if_neg (by omega), if_neg (by omega)]; omega
def loads (b : Bank) (d : Dd) (k : Nat) : Int := if d.kind = 1 ∧ (doB b d).2.1 = 0 ∧ d.n = (k : Int) then d.sum else 0
theorem do_cbal {b : Bank} {d : Dd} (I : Inv b) (k : Nat) (hk : k < b.cards.length) : cbal k (doB b d).1 = cbal k b + loads b d k := by
 by_cases h : (doB b d).2.1 = 0
 case neg => rw [doB_refused b d h]; unfold loads; rw [if_neg (fun hp => h hp.2.1)]; omega
 by_cases k1 : d.kind = 1
 ·have e : doB b d = two (loadB b d) := by unfold doB; rw [if_pos k1]
  unfold loads
  rw [e] at h ⊢
  rw [show cbal k (two (loadB b d)).1 = cbal k (loadB b d).1 from rfl, load_cbal k h]
  by_cases hk : d.n = (k : Int)
  ·rw [if_pos hk, if_pos ⟨k1, h, hk⟩]
  ·rw [if_neg hk, if_neg (fun hp => hk hp.2.2)]
 have hl : loads b d k = 0 := by unfold loads; rw [if_neg (fun hp => k1 hp.1)]
 rw [hl, Int.add_zero]
 unfold doB at h ⊢
 rw [if_neg k1] at h ⊢
 split at h
 ·rename_i e; rw [if_pos e]; exact ask_cbal I k
 rename_i e; rw [if_neg e]
 split at h
 ·rename_i e; rw [if_pos e]; exact move_cbal I k h
 rename_i e; rw [if_neg e]
 split at h
 ·rename_i e; rw [if_pos e]; exact tick_cbal I k hk
 rename_i e; rw [if_neg e]
 split at h
 ·rename_i e; rw [if_pos e]
  unfold two sendB
  repeat' split
  all_goals exact cbal_same I k rfl rfl rfl rfl
 rename_i e; rw [if_neg e]
 split at h
 ·rename_i e; rw [if_pos e]; exact arrive_cbal I k h
 rename_i e; rw [if_neg e]
 split at h
 ·rename_i e; rw [if_pos e]; exact arrive_cbal I k h
 rename_i e; rw [if_neg e]
 split at h
 ·rename_i e; rw [if_pos e]
  unfold two downB
  repeat' split
  all_goals exact cbal_same I k rfl rfl rfl rfl
 rename_i e; rw [if_neg e]
 split at h
 ·rename_i e; rw [if_pos e]; exact up_cbal I k hk
 rename_i e; rw [if_neg e]
 split at h
 ·rename_i e; rw [if_pos e]; exact cbal_same I k rfl rfl rfl rfl
 rename_i e; rw [if_neg e]
 split at h
 ·rename_i e; rw [if_pos e]
  unfold two payB
  repeat' split
  all_goals exact cbal_same I k rfl rfl rfl rfl
 rename_i e; rw [if_neg e]
variable {α : Type}
theorem Shown.below {w w' : World} {b : Bank} {v : Vs} {cs : List CV} {ds : List DV} (h : Shows w b v cs ds) (hb : Below w.heap.size w w') : Shows w' b v cs ds :=
 h.go hb.size (fun _ _ => rfl) fun k hk _ => hb.block k hk
end Go.Proofs.YtofcnebekmjdoaaGreatDoor.Bn
