import Derived.Test.YtodkcagingnelacGreatDoorMFreeac
import Derived.Test.YtodkcagingnelacGreatDoorMFreead
import Derived.Test.YtodkcagingnelacGreatDoorMFreeae
import Derived.Test.YtodkcagingnelacGreatDoorMFreeaq
namespace Go.Proofs.YtodkcagingnelacGreatDoor.Bn
open Go.Proofs.YtodkcagingnelacGreatDoor
/-- A packet; a thing that is done. -/
structure Pk where
  t : Po.Tr
  seen : Int
structure Dd where
  id : Int
  kind : Int
  n : Int
  shop : Int
  mv : Int
  sum : Int
/-- A bank; sides: false is that of cards, true that of shops. -/
structure Bank where
  time : Int
  down : Bool
  cards : List Ca
  due : List Int
  auths : List Au.Au
  snd : Bool → Po.Se
  seen : Bool → Int
  way : Bool → List Pk
  stand : St.Sd
  today : List Dy.Rc
  days : List (List Int)
  book : List (Int × Int)
def upd {α : Type} (f : Bool → α) (i : Bool) (x : α) : Bool → α := fun j => if j = i then x else f j
theorem upd_same {α : Type} (f : Bool → α) (i : Bool) (x : α) : upd f i x i = x := by simp [upd]
theorem upd_other {α : Type} (f : Bool → α) (i : Bool) (x : α) : upd f i x (!i) = f (!i) := by cases i <;> simp [upd]
def zA : Au.Au := Au.none0
def moveB (l : List (Int × Int)) (src dst sum : Int) : List (Int × Int) × Int :=
  if sum < 0 ∨ 1000000000000 < sum then ([], 3) else Bk.post l [(src, -sum), (dst, sum)]
def Bank.card (b : Bank) (k : Int) : Ca := b.cards.getD k.toNat zeroC
def Bank.auth (b : Bank) (k : Int) : Au.Au := b.auths.getD k.toNat zA
def Bank.dueOf (b : Bank) (k : Int) : Int := b.due.getD k.toNat 0
def loadB (b : Bank) (d : Dd) : Bank × Int :=
  if d.n < 0 ∨ (b.cards.length : Int) ≤ d.n then (b, 6)
  else if d.sum < 1 ∨ 1000000 < d.sum then (b, 3)
  else if (shiftC (b.card d.n) 0 d.sum).2 ≠ 0 then (b, (shiftC (b.card d.n) 0 d.sum).2)
  else if (moveB b.book 0 (10 + d.n) d.sum).2 ≠ 0 then (b, (moveB b.book 0 (10 + d.n) d.sum).2)
  else ({ b with cards := b.cards.set d.n.toNat (shiftC (b.card d.n) 0 d.sum).1, book := (moveB b.book 0 (10 + d.n) d.sum).1 }, 0)
def advOf (b : Bank) (d : Dd) : St.Ad := ⟨d.n, d.shop, d.sum, b.time⟩
def askDown (b : Bank) (d : Dd) : Bank × Int × Int :=
  if (St.giveD b.stand (advOf b d)).2 ≠ 0 then (b, (if (St.giveD b.stand (advOf b d)).2 = 10 then 12 else (St.giveD b.stand (advOf b d)).2), 0)
  else if 30 ≤ b.auths.length + b.stand.adv.length then (b, 5, 0)
  else ({ b with stand := (St.giveD b.stand (advOf b d)).1 }, 0, ((b.auths.length + b.stand.adv.length : Nat) : Int))
def askUp (b : Bank) (d : Dd) : Bank × Int × Int :=
  if (Au.newA d.n d.shop d.sum b.time).2 ≠ 0 then (b, (Au.newA d.n d.shop d.sum b.time).2, 0)
  else if 30 ≤ b.auths.length then (b, 5, 0)
  else if (allowC (b.card d.n) d.sum b.time).2 ≠ 0 then (b, (allowC (b.card d.n) d.sum b.time).2, 0)
  else ({ b with cards := b.cards.set d.n.toNat (allowC (b.card d.n) d.sum b.time).1, auths := b.auths ++ [(Au.newA d.n d.shop d.sum b.time).1] }, 0, (b.auths.length : Int))
def askB (b : Bank) (d : Dd) : Bank × Int × Int :=
  if d.n < 0 ∨ (b.cards.length : Int) ≤ d.n ∨ d.shop < 0 ∨ (b.due.length : Int) ≤ d.shop then (b, 6, 0)
  else if b.down = true then askDown b d else askUp b d
/-- By how much a card's money, and a shop's due, change; where money moves; what is sent. -/
def cardBy (k n : Int) : Int := if k = 2 ∨ k = 3 ∨ k = 8 then -n else if k = 6 then n else 0
def dueBy (k n : Int) : Int := if k = 5 then -n else 0
def bookBy (l : List (Int × Int)) (a : Au.Au) (k n : Int) : List (Int × Int) × Int :=
  if k = 2 ∨ k = 3 then moveB l (10 + a.card) 1 n
  else if k = 5 then moveB l (50 + a.shop) 1 n
  else if k = 6 then moveB l 2 (10 + a.card) n
  else if k = 8 then moveB l (10 + a.card) 2 n
  else (l, 0)
def sendBy (s : Bool → Po.Se) (k auth n : Int) : (Bool → Po.Se) × Int :=
  if k = 2 ∨ k = 3 then (upd s false (Po.putS (s false) ⟨0, 1, auth, n⟩).1, (Po.putS (s false) ⟨0, 1, auth, n⟩).2)
  else if k = 5 then (upd s true (Po.putS (s true) ⟨0, 2, auth, n⟩).1, (Po.putS (s true) ⟨0, 2, auth, n⟩).2)
  else if k = 7 then (upd s false (Po.putS (s false) ⟨0, 3, auth, n⟩).1, (Po.putS (s false) ⟨0, 3, auth, n⟩).2)
  else (s, 0)
/-- What becomes of the permission; of its card. -/
def aft (b : Bank) (d : Dd) : Au.Au := Au.step (b.auth d.n) d.mv d.sum
def cardAft (b : Bank) (d : Dd) : Ca × Int := shiftC (b.card (b.auth d.n).card) (Au.holdA (aft b d) - Au.holdA (b.auth d.n)) (cardBy d.mv d.sum)
def moveAll (b : Bank) (d : Dd) : Bank :=
  { b with cards := b.cards.set (b.auth d.n).card.toNat (cardAft b d).1
           due := b.due.set (b.auth d.n).shop.toNat (b.dueOf (b.auth d.n).shop + dueBy d.mv d.sum)
           book := (bookBy b.book (b.auth d.n) d.mv d.sum).1
           snd := (sendBy b.snd d.mv d.n d.sum).1
           today := b.today ++ [⟨(b.auth d.n).shop, d.n, d.mv, d.sum⟩]
           auths := b.auths.set d.n.toNat (aft b d) }
def moveD (b : Bank) (d : Dd) : Bank × Int :=
  if b.down = true then (b, 12)
  else if d.n < 0 ∨ (b.auths.length : Int) ≤ d.n then (b, 6)
  else if Au.mvErr (b.auth d.n) d.mv d.sum ≠ 0 then (b, Au.mvErr (b.auth d.n) d.mv d.sum)
  else if d.mv = 1 ∧ (b.card (b.auth d.n).card).m - (b.card (b.auth d.n).card).h < d.sum then (b, 10)
  else if (cardAft b d).2 ≠ 0 then (b, (cardAft b d).2)
  else if (bookBy b.book (b.auth d.n) d.mv d.sum).2 ≠ 0 then (b, (bookBy b.book (b.auth d.n) d.mv d.sum).2)
  else if (sendBy b.snd d.mv d.n d.sum).2 ≠ 0 then (b, (sendBy b.snd d.mv d.n d.sum).2)
  else if 100 ≤ b.today.length then (b, 5)
  else (moveAll b d, 0)
def lateC (time : Int) (cs : List Ca) (a : Au.Au) : List Ca :=
  cs.set a.card.toNat ⟨(cs.getD a.card.toNat zeroC).m, (cs.getD a.card.toNat zeroC).h + (Au.holdA (Au.lateA a time) - Au.holdA a), (cs.getD a.card.toNat zeroC).p, (cs.getD a.card.toNat zeroC).u⟩
def shutB (b : Bank) : Bank := { b with cards := b.auths.foldl (lateC b.time) b.cards, auths := b.auths.map fun a => Au.lateA a b.time }
def tickB (b : Bank) (d : Dd) : Bank × Int :=
  if d.sum < 0 ∨ 1000000 < d.sum ∨ 1000000 < b.time + d.sum then (b, 3)
  else if b.down = true then ({ b with time := b.time + d.sum }, 0)
  else (shutB { b with time := b.time + d.sum }, 0)
def downB (b : Bank) : Bank × Int := if b.down = true then (b, 8) else ({ b with down := true }, 0)
def forceL (cs : List Ca) (x : St.Ad) : List Ca :=
  cs.set x.c.toNat ⟨(cs.getD x.c.toNat zeroC).m, (cs.getD x.c.toNat zeroC).h + x.m, (cs.getD x.c.toNat zeroC).p, (cs.getD x.c.toNat zeroC).u⟩
def advA (x : St.Ad) : Au.Au := ⟨x.c, x.s, x.m, 0, 0, 0, x.t + 100, false⟩
def upB (b : Bank) : Bank × Int :=
  if b.down = true then
    (shutB { b with cards := b.stand.adv.foldl forceL b.cards, auths := b.auths ++ b.stand.adv.map advA, down := false, stand := ⟨b.stand.cap, List.replicate b.cards.length 0, []⟩ }, 0)
  else (b, 8)
def dayB (b : Bank) : Bank × Int := ({ b with days := b.days ++ [Dy.fileB b.today], today := [] }, 0)
def payB (b : Bank) (d : Dd) : Bank × Int :=
  if d.n < 0 ∨ (b.due.length : Int) ≤ d.n then (b, 6)
  else if b.dueOf d.n < 1 then (b, 10)
  else if (moveB b.book (50 + d.n) 0 (b.dueOf d.n)).2 ≠ 0 then (b, (moveB b.book (50 + d.n) 0 (b.dueOf d.n)).2)
  else ({ b with due := b.due.set d.n.toNat 0, book := (moveB b.book (50 + d.n) 0 (b.dueOf d.n)).1 }, 0)
def sideOf (n : Int) : Bool := n == 1
def sent (b : Bank) (i : Bool) : List Pk := b.way (!i) ++ (b.snd i).kept.map (fun t => (⟨t, -1⟩ : Pk)) ++ [⟨Po.zeroT, b.seen i⟩]
def sendB (b : Bank) (d : Dd) : Bank × Int :=
  if d.n < 0 ∨ 1 < d.n then (b, 6)
  else if 60 < (sent b (sideOf d.n)).length then (b, 5)
  else ({ b with way := upd b.way (!sideOf d.n) (sent b (sideOf d.n)) }, 0)
/-- The first packet is gone. -/
def gone (b : Bank) (i : Bool) : Bank := { b with way := upd b.way i (b.way i).tail }
/-- A transfer comes. -/
def comes (b : Bank) (i : Bool) (t : Po.Tr) : Bank × Int :=
  if t.k = 1 then
    if (moveB b.book 1 (50 + (b.auth t.a).shop) t.s).2 ≠ 0 then (b, (moveB b.book 1 (50 + (b.auth t.a).shop) t.s).2)
    else ({ gone b i with seen := upd b.seen i (b.seen i + 1), due := b.due.set (b.auth t.a).shop.toNat (b.dueOf (b.auth t.a).shop + t.s), book := (moveB b.book 1 (50 + (b.auth t.a).shop) t.s).1 }, 0)
  else if t.k = 2 then
    if (shiftC (b.card (b.auth t.a).card) 0 t.s).2 ≠ 0 then (b, (shiftC (b.card (b.auth t.a).card) 0 t.s).2)
    else if (moveB b.book 1 (10 + (b.auth t.a).card) t.s).2 ≠ 0 then (b, (moveB b.book 1 (10 + (b.auth t.a).card) t.s).2)
    else ({ gone b i with seen := upd b.seen i (b.seen i + 1), cards := b.cards.set (b.auth t.a).card.toNat (shiftC (b.card (b.auth t.a).card) 0 t.s).1, book := (moveB b.book 1 (10 + (b.auth t.a).card) t.s).1 }, 0)
  else if t.k = 3 then
    if (moveB b.book (50 + (b.auth t.a).shop) 2 t.s).2 ≠ 0 then (b, (moveB b.book (50 + (b.auth t.a).shop) 2 t.s).2)
    else ({ gone b i with seen := upd b.seen i (b.seen i + 1), due := b.due.set (b.auth t.a).shop.toNat (b.dueOf (b.auth t.a).shop - t.s), book := (moveB b.book (50 + (b.auth t.a).shop) 2 t.s).1 }, 0)
  else ({ gone b i with seen := upd b.seen i (b.seen i + 1) }, 0)
def arriveAt (b : Bank) (i : Bool) (p : Pk) : Bank × Int :=
  if 0 ≤ p.seen then
    if (Po.backS (b.snd i) p.seen).2 ≠ 0 then (b, (Po.backS (b.snd i) p.seen).2) else ({ gone b i with snd := upd b.snd i (Po.backS (b.snd i) p.seen).1 }, 0)
  else if p.t.n ≠ b.seen i + 1 ∨ 1000000 ≤ b.seen i then (gone b i, 0)
  else comes b i p.t
def arriveB (b : Bank) (d : Dd) (lost : Bool) : Bank × Int :=
  if d.n < 0 ∨ 1 < d.n then (b, 6)
  else match b.way (sideOf d.n) with
    | [] => (b, 6)
    | p :: _ => if lost = true then (gone b (sideOf d.n), 0) else arriveAt b (sideOf d.n) p
def two (x : Bank × Int) : Bank × Int × Int := (x.1, x.2, 0)
def doB (b : Bank) (d : Dd) : Bank × Int × Int :=
  if d.kind = 1 then two (loadB b d)
  else if d.kind = 2 then askB b d
  else if d.kind = 3 then two (moveD b d)
  else if d.kind = 4 then two (tickB b d)
  else if d.kind = 5 then two (sendB b d)
  else if d.kind = 6 then two (arriveB b d false)
  else if d.kind = 7 then two (arriveB b d true)
  else if d.kind = 8 then two (downB b)
  else if d.kind = 9 then two (upB b)
  else if d.kind = 10 then two (dayB b)
  else if d.kind = 11 then two (payB b d)
  else (b, 1, 0)
/-- An answer: an error's number, a permission's. -/
abbrev An := Int × Int
/-- What was told of that number first. -/
def told (id : Int) : List (Dd × An) → Option An
  | [] => none
  | x :: r => if x.1.id = id then some x.2 else told id r
/-- One thing more: the bank, and what was done and told so far, in turn. -/
def play1 (s : Bank × List (Dd × An)) (d : Dd) : Bank × List (Dd × An) :=
  match (if d.id = 0 then none else told d.id s.2) with
  | some a => (s.1, s.2 ++ [(d, a)])
  | none => ((doB s.1 d).1, s.2 ++ [(d, ((doB s.1 d).2.1, (doB s.1 d).2.2))])
def playL (b : Bank) (l : List Dd) : Bank × List (Dd × An) := l.foldl play1 (b, [])
theorem playL_snoc (b : Bank) (l : List Dd) (d : Dd) : playL b (l ++ [d]) = play1 (playL b l) d := by unfold playL; simp
/-- What is refused changes nothing. -/
theorem two_refused {b : Bank} {x : Bank × Int} (h : x.2 ≠ 0 → x.1 = b) : (two x).2.1 ≠ 0 → (two x).1 = b := h
theorem doB_refused (b : Bank) (d : Dd) : (doB b d).2.1 ≠ 0 → (doB b d).1 = b := by
  have ite2 : ∀ {c : Prop} [Decidable c] {x y : Bank × Int}, (x.2 ≠ 0 → x.1 = b) → (y.2 ≠ 0 → y.1 = b) → ((if c then x else y).2 ≠ 0 → (if c then x else y).1 = b) := by
    intro c _ x y hx hy
    split
    · exact hx
    · exact hy
  have ite3 : ∀ {c : Prop} [Decidable c] {x y : Bank × Int × Int}, (x.2.1 ≠ 0 → x.1 = b) → (y.2.1 ≠ 0 → y.1 = b) → ((if c then x else y).2.1 ≠ 0 → (if c then x else y).1 = b) := by
    intro c _ x y hx hy
    split
    · exact hx
    · exact hy
  have same2 : ∀ e : Int, ((b, e) : Bank × Int).2 ≠ 0 → ((b, e) : Bank × Int).1 = b := fun _ _ => rfl
  have done2 : ∀ x : Bank, ((x, 0) : Bank × Int).2 ≠ 0 → ((x, 0) : Bank × Int).1 = b := fun _ h => absurd rfl h
  have same3 : ∀ e k : Int, ((b, e, k) : Bank × Int × Int).2.1 ≠ 0 → ((b, e, k) : Bank × Int × Int).1 = b := fun _ _ _ => rfl
  have done3 : ∀ (x : Bank) (k : Int), ((x, 0, k) : Bank × Int × Int).2.1 ≠ 0 → ((x, 0, k) : Bank × Int × Int).1 = b := fun _ _ h => absurd rfl h
  unfold doB
  refine ite3 (two_refused ?_) (ite3 ?_ (ite3 (two_refused ?_) (ite3 (two_refused ?_) (ite3 (two_refused ?_) (ite3 (two_refused ?_) (ite3 (two_refused ?_) (ite3 (two_refused ?_) (ite3 (two_refused ?_) (ite3 (two_refused ?_) (ite3 (two_refused ?_) (same3 _ _)))))))))))
  · exact ite2 (same2 _) (ite2 (same2 _) (ite2 (same2 _) (ite2 (same2 _) (done2 _))))
  · exact ite3 (same3 _ _) (ite3 (ite3 (same3 _ _) (ite3 (same3 _ _) (done3 _ _))) (ite3 (same3 _ _) (ite3 (same3 _ _) (ite3 (same3 _ _) (done3 _ _)))))
  · exact ite2 (same2 _) (ite2 (same2 _) (ite2 (same2 _) (ite2 (same2 _) (ite2 (same2 _) (ite2 (same2 _) (ite2 (same2 _) (ite2 (same2 _) (done2 _))))))))
  · exact ite2 (same2 _) (ite2 (done2 _) (done2 _))
  · exact ite2 (same2 _) (ite2 (same2 _) (done2 _))
  · unfold arriveB
    refine ite2 (same2 _) ?_
    split
    · exact same2 _
    · refine ite2 (done2 _) ?_
      unfold arriveAt
      refine ite2 (ite2 (same2 _) (done2 _)) (ite2 (done2 _) ?_)
      exact ite2 (ite2 (same2 _) (done2 _)) (ite2 (ite2 (same2 _) (ite2 (same2 _) (done2 _))) (ite2 (ite2 (same2 _) (done2 _)) (done2 _)))
  · unfold arriveB
    refine ite2 (same2 _) ?_
    split
    · exact same2 _
    · refine ite2 (done2 _) ?_
      unfold arriveAt
      refine ite2 (ite2 (same2 _) (done2 _)) (ite2 (done2 _) ?_)
      exact ite2 (ite2 (same2 _) (done2 _)) (ite2 (ite2 (same2 _) (ite2 (same2 _) (done2 _))) (ite2 (ite2 (same2 _) (done2 _)) (done2 _)))
  · exact ite2 (same2 _) (done2 _)
  · exact ite2 (done2 _) (same2 _)
  · exact done2 _
  · exact ite2 (same2 _) (ite2 (same2 _) (ite2 (same2 _) (done2 _)))
end Go.Proofs.YtodkcagingnelacGreatDoor.Bn
namespace Go.Proofs.YtodkcagingnelacGreatDoor.Bn
open Go.Proofs.YtodkcagingnelacGreatDoor
def sumOn {α : Type} (f : α → Int) : List α → Int
  | [] => 0
  | x :: r => f x + sumOn f r
theorem sumOn_append {α : Type} (f : α → Int) (a b : List α) : sumOn f (a ++ b) = sumOn f a + sumOn f b := by
  induction a with
  | nil => simp [sumOn]
  | cons x r ih => simp only [List.cons_append, sumOn, ih]; omega
theorem sumOn_one {α : Type} (f : α → Int) (x : α) : sumOn f [x] = f x := by simp [sumOn]
theorem sumOn_map {α β : Type} (f : β → Int) (g : α → β) (l : List α) : sumOn f (l.map g) = sumOn (fun x => f (g x)) l := by
  induction l with
  | nil => rfl
  | cons x r ih => simp only [List.map_cons, sumOn, ih]
theorem sumOn_add {α : Type} (f g : α → Int) (l : List α) : sumOn (fun x => f x + g x) l = sumOn f l + sumOn g l := by
  induction l with
  | nil => rfl
  | cons x r ih => simp only [sumOn, ih]; omega
theorem sumOn_congr {α : Type} {f g : α → Int} {l : List α} (h : ∀ x ∈ l, f x = g x) : sumOn f l = sumOn g l := by
  induction l with
  | nil => rfl
  | cons x r ih => simp only [sumOn]; rw [h x List.mem_cons_self, ih fun y hy => h y (List.mem_cons_of_mem _ hy)]
theorem sumOn_zero {α : Type} {f : α → Int} {l : List α} (h : ∀ x ∈ l, f x = 0) : sumOn f l = 0 := by
  induction l with
  | nil => rfl
  | cons x r ih => simp only [sumOn]; rw [h x List.mem_cons_self, ih fun y hy => h y (List.mem_cons_of_mem _ hy)]; rfl
theorem sumOn_set {α : Type} (f : α → Int) (l : List α) (i : Nat) (x d : α) (h : i < l.length) : sumOn f (l.set i x) = sumOn f l - f (l.getD i d) + f x := by
  induction l generalizing i with
  | nil => simp at h
  | cons y r ih =>
    cases i with
    | zero => simp [sumOn]; omega
    | succ i =>
      have := ih i (by simpa using h)
      simp only [List.set_cons_succ, sumOn, List.getD_cons_succ, this]; omega
theorem sumOn_bound {α : Type} {f : α → Int} {c : Int} {l : List α} (h : ∀ x ∈ l, 0 ≤ f x ∧ f x ≤ c) : 0 ≤ sumOn f l ∧ sumOn f l ≤ c * l.length := by
  induction l with
  | nil => simp [sumOn]
  | cons x r ih =>
    have h1 := ih fun y hy => h y (List.mem_cons_of_mem _ hy)
    have h2 := h x List.mem_cons_self
    simp only [sumOn, List.length_cons, Int.natCast_add, Int.natCast_one, Int.mul_add, Int.mul_one]
    omega
theorem getD_set {α : Type} (l : List α) (i j : Nat) (x d : α) (h : i < l.length) : (l.set i x).getD j d = if i = j then x else l.getD j d := by
  simp only [List.getD_eq_getElem?_getD, List.getElem?_set]
  by_cases e : i = j
  · subst e; simp [h]
  · simp [e]
theorem getD_mem' {α : Type} {l : List α} {i : Nat} (d : α) (h : i < l.length) : l.getD i d ∈ l := by simp [List.getD, h]
theorem mem_getD {α : Type} {l : List α} {x : α} (d : α) (h : x ∈ l) : ∃ i, i < l.length ∧ l.getD i d = x := by
  obtain ⟨i, hi, rfl⟩ := List.getElem_of_mem h
  exact ⟨i, hi, by simp [List.getD, hi]⟩
theorem mem_set' {α : Type} {l : List α} {i : Nat} {x y : α} (h : y ∈ l.set i x) : y = x ∨ y ∈ l := by
  rcases List.mem_or_eq_of_mem_set h with h | h
  · exact Or.inr h
  · exact Or.inl h
theorem moveB_zero {l : List (Int × Int)} {src dst n : Int} (h : (moveB l src dst n).2 = 0) :
    (Bk.wrong (moveB l src dst n).1).1 = 0 ∧ ∀ acc, Bk.getE (moveB l src dst n).1 acc = Bk.getE l acc + (if src = acc then -n else 0) + (if dst = acc then n else 0) := by
  unfold moveB at h ⊢
  by_cases h0 : n < 0 ∨ 1000000000000 < n
  · rw [if_pos h0] at h; cases h
  · rw [if_neg h0] at h ⊢
    have hp : Bk.post l [(src, -n), (dst, n)] = ((Bk.post l [(src, -n), (dst, n)]).1, 0) := by rw [← h]
    obtain ⟨-, -, h3, h4⟩ := Bk.post_right hp
    refine ⟨h3, fun acc => ?_⟩
    rw [h4 acc]
    simp only [Bk.given]
    omega
def heldBy (k : Nat) (a : Au.Au) : Int := if a.card = (k : Int) then Au.holdA a else 0
def heldOf (k : Nat) (l : List Au.Au) : Int := sumOn (heldBy k) l
/-- What is on its way of a sender's, of which so many came: money from account 1; what goes back to disputes. -/
def wayBy (came : Int) (t : Po.Tr) : Int := if came < t.n ∧ t.k ≠ 3 then t.s else 0
def backBy (came : Int) (t : Po.Tr) : Int := if came < t.n ∧ t.k = 3 then t.s else 0
def onWay (b : Bank) : Int := sumOn (wayBy (b.seen true)) (b.snd false).kept + sumOn (wayBy (b.seen false)) (b.snd true).kept
def onBack (b : Bank) : Int := sumOn (backBy (b.seen true)) (b.snd false).kept + sumOn (backBy (b.seen false)) (b.snd true).kept
def disputed (b : Bank) : Int := sumOn Au.Au.dis b.auths
/-- Cards, shops, permissions: what is held. -/
structure Held (b : Bank) : Prop where
  cards8 : b.cards.length ≤ 8
  due8 : b.due.length ≤ 8
  right : ∀ c ∈ b.cards, RightC c
  few : b.auths.length + b.stand.adv.length ≤ 30
  auths : ∀ a ∈ b.auths, Au.Rng a ∧ Au.Fit a ∧ a.card < b.cards.length ∧ a.shop < b.due.length
  held : ∀ k : Nat, k < b.cards.length → (b.cards.getD k zeroC).h = heldOf k b.auths
  stand : St.Right b.stand
  standN : b.stand.used.length = b.cards.length
  advs : ∀ x ∈ b.stand.adv, x.s < b.due.length ∧ x.t ≤ b.time
  noadv : b.down = false → b.stand.adv = []
  time0 : 0 ≤ b.time
  time1 : b.time ≤ 1000000
  today : Dy.Right b.today
/-- Senders, and what is on its way. -/
structure Sent (b : Bank) : Prop where
  right : ∀ i, Po.Right (b.snd i)
  seen0 : ∀ i, 0 ≤ b.seen i
  seen1 : ∀ i, b.seen i ≤ (b.snd (!i)).sent
  keeps : ∀ i, (b.snd i).sent - (b.snd i).kept.length ≤ b.seen (!i)
  auths : ∀ i, ∀ t ∈ (b.snd i).kept, t.a < b.auths.length
  kind0 : ∀ t ∈ (b.snd false).kept, t.k = 1 ∨ t.k = 3
  kind1 : ∀ t ∈ (b.snd true).kept, t.k = 2
  ways : ∀ i, ∀ p ∈ b.way i, (p.seen = -1 ∧ (p.t.n ≤ b.seen i ∨ p.t ∈ (b.snd (!i)).kept)) ∨ (0 ≤ p.seen ∧ p.seen ≤ b.seen (!i))
  way60 : ∀ i, (b.way i).length ≤ 60
/-- The book. -/
structure Books (b : Bank) : Prop where
  right : (Bk.wrong b.book).1 = 0
  accC : ∀ k : Nat, k < b.cards.length → Bk.getE b.book (10 + (k : Int)) = (b.cards.getD k zeroC).m
  accS : ∀ k : Nat, k < b.due.length → Bk.getE b.book (50 + (k : Int)) = b.due.getD k 0
  acc1 : Bk.getE b.book 1 = onWay b
  acc2 : Bk.getE b.book 2 = -disputed b - onBack b
structure Inv (b : Bank) : Prop where
  held : Held b
  sent : Sent b
  books : Books b
theorem Held.card {b : Bank} (h : Held b) {k : Int} (h0 : 0 ≤ k) (h1 : k < b.cards.length) : RightC (b.card k) := h.right _ (getD_mem' _ (by omega))
theorem Held.auth {b : Bank} (h : Held b) {k : Int} (h0 : 0 ≤ k) (h1 : k < b.auths.length) : Au.Rng (b.auth k) ∧ Au.Fit (b.auth k) ∧ (b.auth k).card < b.cards.length ∧ (b.auth k).shop < b.due.length := h.auths _ (getD_mem' _ (by omega))
theorem hold_small {a : Au.Au} (h1 : Au.Rng a) (h2 : Au.Fit a) : 0 ≤ Au.holdA a ∧ Au.holdA a ≤ 1000000 := by
  unfold Au.holdA
  obtain ⟨⟨p1, p2⟩, ⟨p3, p4⟩, -⟩ := h1
  split
  · omega
  · have := h2.1; omega
theorem Held.small {b : Bank} (h : Held b) (k : Nat) : 0 ≤ heldOf k b.auths ∧ heldOf k b.auths ≤ 30000000 := by
  have h1 := sumOn_bound (f := heldBy k) (c := 1000000) (l := b.auths) fun a ha => by
    have := hold_small (h.auths a ha).1 (h.auths a ha).2.1
    unfold heldBy
    split <;> omega
  have := h.few
  unfold heldOf
  omega
/-- A card whose money and held change. -/
theorem right_of_shift {c : Ca} {x y : Int} (h : (shiftC c y x).2 = 0) : RightC c ∧ (shiftC c y x).1 = ⟨c.m + x, c.h + y, c.p, c.u⟩ ∧ RightC ⟨c.m + x, c.h + y, c.p, c.u⟩ := by
  obtain ⟨h0, h1, h2, h3⟩ := shift_zero h
  refine ⟨wrongC_ok.1 h0, by rw [h3], ?_⟩
  have R := wrongC_ok.1 h0
  unfold off at h2
  exact ⟨by dsimp only; omega, by dsimp only; omega, by dsimp only; omega, by dsimp only; omega, R.pace, R.uses⟩
theorem load_inv {b : Bank} {d : Dd} (I : Inv b) (h : (loadB b d).2 = 0) : Inv (loadB b d).1 := by
  unfold loadB at h ⊢
  split at h
  · cases h
  rename_i h1
  rw [if_neg h1]
  split at h
  · cases h
  rename_i h2
  rw [if_neg h2]
  split at h
  · rename_i h3; exact absurd h h3
  rename_i h3
  rw [if_neg h3]
  split at h
  · rename_i h4; exact absurd h h4
  rename_i h4
  rw [if_neg h4]
  have h3 : (shiftC (b.card d.n) 0 d.sum).2 = 0 := Decidable.not_not.1 h3
  have h4 : (moveB b.book 0 (10 + d.n) d.sum).2 = 0 := Decidable.not_not.1 h4
  obtain ⟨g1, g2, g3⟩ := right_of_shift h3
  obtain ⟨m1, m2⟩ := moveB_zero h4
  have hk : d.n.toNat < b.cards.length := by omega
  obtain ⟨H, S, B⟩ := I
  refine ⟨⟨by simpa using H.cards8, H.due8, ?_, H.few, by simpa using H.auths, ?_, H.stand, by simpa using H.standN, H.advs, H.noadv, H.time0, H.time1, H.today⟩, ⟨S.right, S.seen0, S.seen1, S.keeps, S.auths, S.kind0, S.kind1, S.ways, S.way60⟩, ⟨m1, ?_, ?_, ?_, ?_⟩⟩
  · intro c hc
    rcases mem_set' hc with rfl | hc
    · rw [g2]; exact g3
    · exact H.right c hc
  · intro k hk2
    have hk2 : k < b.cards.length := by simpa using hk2
    show ((b.cards.set d.n.toNat (shiftC (b.card d.n) 0 d.sum).1).getD k zeroC).h = heldOf k b.auths
    rw [getD_set _ _ _ _ _ hk, g2]
    split
    · rename_i e; subst e
      have := H.held _ hk2
      show (b.card d.n).h + 0 = _
      rw [Int.add_zero]; exact this
    · exact H.held k hk2
  · intro k hk2
    have hk2 : k < b.cards.length := by simpa using hk2
    show Bk.getE (moveB b.book 0 (10 + d.n) d.sum).1 (10 + (k : Int)) = ((b.cards.set d.n.toNat (shiftC (b.card d.n) 0 d.sum).1).getD k zeroC).m
    rw [m2, getD_set _ _ _ _ _ hk, g2, B.accC k hk2, if_neg (by omega)]
    split
    · rename_i e; rw [if_pos (by omega)]
      have e2 : k = d.n.toNat := by omega
      subst e2
      show _ = (b.card d.n).m + d.sum
      unfold Bank.card
      omega
    · rename_i e; rw [if_neg (by omega)]; omega
  · intro k hk2
    have := H.cards8
    show Bk.getE (moveB b.book 0 (10 + d.n) d.sum).1 (50 + (k : Int)) = b.due.getD k 0
    rw [m2, B.accS k hk2, if_neg (by omega), if_neg (by omega)]; omega
  · show Bk.getE (moveB b.book 0 (10 + d.n) d.sum).1 1 = onWay b
    rw [m2, B.acc1, if_neg (by omega), if_neg (by omega)]; omega
  · show Bk.getE (moveB b.book 0 (10 + d.n) d.sum).1 2 = _
    rw [m2, B.acc2, if_neg (by omega), if_neg (by omega)]; show _ = -disputed b - onBack b; omega
end Go.Proofs.YtodkcagingnelacGreatDoor.Bn
namespace Go.Proofs.YtodkcagingnelacGreatDoor.Bn
open Go.Proofs.YtodkcagingnelacGreatDoor
theorem pay_inv {b : Bank} {d : Dd} (I : Inv b) (h : (payB b d).2 = 0) : Inv (payB b d).1 := by
  unfold payB at h ⊢
  split at h
  · cases h
  rename_i h1
  rw [if_neg h1]
  split at h
  · cases h
  rename_i h2
  rw [if_neg h2]
  split at h
  · rename_i h3; exact absurd h h3
  rename_i h3
  rw [if_neg h3]
  have h3 : (moveB b.book (50 + d.n) 0 (b.dueOf d.n)).2 = 0 := Decidable.not_not.1 h3
  obtain ⟨m1, m2⟩ := moveB_zero h3
  have hk : d.n.toNat < b.due.length := by omega
  obtain ⟨H, S, B⟩ := I
  refine ⟨⟨H.cards8, by simpa using H.due8, H.right, H.few, by simpa using H.auths, H.held, H.stand, H.standN, by simpa using H.advs, H.noadv, H.time0, H.time1, H.today⟩, ⟨S.right, S.seen0, S.seen1, S.keeps, S.auths, S.kind0, S.kind1, S.ways, S.way60⟩, ⟨m1, ?_, ?_, ?_, ?_⟩⟩
  · intro k hk2
    have hk2 : k < b.cards.length := hk2
    have := H.cards8
    show Bk.getE (moveB b.book (50 + d.n) 0 (b.dueOf d.n)).1 (10 + (k : Int)) = (b.cards.getD k zeroC).m
    rw [m2, B.accC k hk2, if_neg (by omega), if_neg (by omega)]; omega
  · intro k hk2
    have hk2 : k < b.due.length := by simpa using hk2
    show Bk.getE (moveB b.book (50 + d.n) 0 (b.dueOf d.n)).1 (50 + (k : Int)) = (b.due.set d.n.toNat 0).getD k 0
    rw [m2, getD_set _ _ _ _ _ hk, B.accS k hk2, if_neg (show ¬ (0 : Int) = 50 + (k : Int) by omega)]
    by_cases e : d.n.toNat = k
    · rw [if_pos e, if_pos (by omega)]; subst e; unfold Bank.dueOf; omega
    · rw [if_neg e, if_neg (by omega)]; omega
  · show Bk.getE (moveB b.book (50 + d.n) 0 (b.dueOf d.n)).1 1 = onWay b
    rw [m2, B.acc1, if_neg (by omega), if_neg (by omega)]; omega
  · show Bk.getE (moveB b.book (50 + d.n) 0 (b.dueOf d.n)).1 2 = -disputed b - onBack b
    rw [m2, B.acc2, if_neg (by omega), if_neg (by omega)]; omega
theorem day_right : Dy.Right [] := ⟨by simp, fun r h => by cases h⟩
theorem day_inv {b : Bank} (I : Inv b) : Inv (dayB b).1 := by
  obtain ⟨H, S, B⟩ := I
  exact ⟨⟨H.cards8, H.due8, H.right, H.few, H.auths, H.held, H.stand, H.standN, H.advs, H.noadv, H.time0, H.time1, day_right⟩, ⟨S.right, S.seen0, S.seen1, S.keeps, S.auths, S.kind0, S.kind1, S.ways, S.way60⟩, ⟨B.right, B.accC, B.accS, B.acc1, B.acc2⟩⟩
theorem down_inv {b : Bank} (I : Inv b) (h : (downB b).2 = 0) : Inv (downB b).1 := by
  unfold downB at h ⊢
  split at h
  · cases h
  rename_i h1
  rw [if_neg h1]
  obtain ⟨H, S, B⟩ := I
  exact ⟨⟨H.cards8, H.due8, H.right, H.few, H.auths, H.held, H.stand, H.standN, H.advs, (fun h => by cases h), H.time0, H.time1, H.today⟩, ⟨S.right, S.seen0, S.seen1, S.keeps, S.auths, S.kind0, S.kind1, S.ways, S.way60⟩, ⟨B.right, B.accC, B.accS, B.acc1, B.acc2⟩⟩
theorem askDown_inv {b : Bank} {d : Dd} (I : Inv b) (hd : b.down = true) (h1 : ¬ (d.n < 0 ∨ (b.cards.length : Int) ≤ d.n ∨ d.shop < 0 ∨ (b.due.length : Int) ≤ d.shop)) (h : (askDown b d).2.1 = 0) : Inv (askDown b d).1 := by
  unfold askDown at h ⊢
  split at h
  · rename_i h2
    dsimp only at h
    split at h
    · cases h
    · exact absurd h h2
  rename_i h2
  rw [if_neg h2]
  split at h
  · cases h
  rename_i h3
  rw [if_neg h3]
  have h2 : (St.giveD b.stand (advOf b d)).2 = 0 := Decidable.not_not.1 h2
  obtain ⟨H, S, B⟩ := I
  obtain ⟨g1, g2⟩ := St.give_right H.stand h2
  rw [g1]
  have hadv : (St.moreD b.stand (advOf b d)).adv = b.stand.adv ++ [advOf b d] := rfl
  refine ⟨⟨H.cards8, H.due8, H.right, ?_, H.auths, H.held, g2, ?_, ?_, ?_, H.time0, H.time1, H.today⟩, ⟨S.right, S.seen0, S.seen1, S.keeps, S.auths, S.kind0, S.kind1, S.ways, S.way60⟩, ⟨B.right, B.accC, B.accS, B.acc1, B.acc2⟩⟩
  · show b.auths.length + (b.stand.adv ++ [advOf b d]).length ≤ 30
    simp; omega
  · show (b.stand.used.set _ _).length = _
    simpa using H.standN
  · intro x hx
    have hx : x ∈ b.stand.adv ++ [advOf b d] := hx
    rcases List.mem_append.1 hx with hx | hx
    · exact H.advs x hx
    · obtain rfl := List.mem_singleton.1 hx
      exact ⟨by show d.shop < (b.due.length : Int); omega, Int.le_refl _⟩
  · intro h0; rw [hd] at h0; cases h0
theorem newA_zero {c s n t : Int} (h : (Au.newA c s n t).2 = 0) : (Au.newA c s n t).1 = ⟨c, s, n, 0, 0, 0, t + 100, false⟩ ∧ 1 ≤ n ∧ n ≤ 1000000 ∧ 0 ≤ t ∧ t ≤ 1000000 ∧ 0 ≤ c ∧ c < 8 ∧ 0 ≤ s ∧ s < 8 := by
  unfold Au.newA at h ⊢
  split at h
  · rename_i h1
    rw [if_pos h1]
    exact ⟨rfl, h1.1.1, h1.1.2, h1.2.1, h1.2.2.1, h1.2.2.2.1.1, h1.2.2.2.1.2, h1.2.2.2.2.1, h1.2.2.2.2.2⟩
  · cases h
theorem askUp_inv {b : Bank} {d : Dd} (I : Inv b) (hd : b.down = false) (h1 : ¬ (d.n < 0 ∨ (b.cards.length : Int) ≤ d.n ∨ d.shop < 0 ∨ (b.due.length : Int) ≤ d.shop)) (h : (askUp b d).2.1 = 0) : Inv (askUp b d).1 := by
  unfold askUp at h ⊢
  split at h
  · rename_i h2; exact absurd h h2
  rename_i h2
  rw [if_neg h2]
  split at h
  · cases h
  rename_i h3
  rw [if_neg h3]
  split at h
  · rename_i h4; exact absurd h h4
  rename_i h4
  rw [if_neg h4]
  have h2 : (Au.newA d.n d.shop d.sum b.time).2 = 0 := Decidable.not_not.1 h2
  have h4 : (allowC (b.card d.n) d.sum b.time).2 = 0 := Decidable.not_not.1 h4
  obtain ⟨n1, n2, n3, n4, n5, n6, n7, n8, n9⟩ := newA_zero h2
  obtain ⟨-, -, -, -, c1, c2, c3⟩ := allow_zero h4
  rw [n1]
  obtain ⟨H, S, B⟩ := I
  have hk : d.n.toNat < b.cards.length := by omega
  have hna := H.noadv hd
  have hdis : disputed { b with cards := b.cards.set d.n.toNat (allowC (b.card d.n) d.sum b.time).1, auths := b.auths ++ [⟨d.n, d.shop, d.sum, 0, 0, 0, b.time + 100, false⟩] } = disputed b := by
    show sumOn Au.Au.dis (b.auths ++ [_]) = sumOn Au.Au.dis b.auths
    rw [sumOn_append, sumOn_one]; dsimp only; omega
  refine ⟨⟨by simpa using H.cards8, H.due8, ?_, ?_, ?_, ?_, H.stand, by simpa using H.standN, H.advs, H.noadv, H.time0, H.time1, H.today⟩, ⟨S.right, S.seen0, S.seen1, S.keeps, ?_, S.kind0, S.kind1, S.ways, S.way60⟩, ⟨B.right, ?_, B.accS, B.acc1, by rw [hdis]; exact B.acc2⟩⟩
  · intro c hc
    rcases mem_set' hc with rfl | hc
    · exact wrongC_ok.1 c1
    · exact H.right c hc
  · show (b.auths ++ [_]).length + b.stand.adv.length ≤ 30
    rw [hna]; simp; omega
  · intro a ha
    have ha : a ∈ b.auths ++ [_] := ha
    show _ ∧ _ ∧ a.card < ((b.cards.set _ _).length : Int) ∧ a.shop < (b.due.length : Int)
    rw [List.length_set]
    rcases List.mem_append.1 ha with ha | ha
    · exact H.auths a ha
    · obtain rfl := List.mem_singleton.1 ha
      unfold Au.Rng Au.Fit
      dsimp only
      omega
  · intro k hk2
    have hk2 : k < b.cards.length := by simpa using hk2
    show ((b.cards.set d.n.toNat (allowC (b.card d.n) d.sum b.time).1).getD k zeroC).h = sumOn (heldBy k) (b.auths ++ [_])
    rw [getD_set _ _ _ _ _ hk, sumOn_append, sumOn_one]
    have := H.held k hk2
    unfold heldOf at this
    split
    · rename_i e; subst e
      rw [c3]; unfold Bank.card; rw [this]
      unfold heldBy Au.holdA; dsimp only
      rw [if_pos (by omega)]; simp
    · rename_i e
      rw [this]; unfold heldBy; dsimp only
      rw [if_neg (by omega)]; simp
  · intro i t ht
    have := S.auths i t ht
    show t.a < ((b.auths ++ [_]).length : Int)
    simp; omega
  · intro k hk2
    have hk2 : k < b.cards.length := by simpa using hk2
    show Bk.getE b.book (10 + (k : Int)) = ((b.cards.set d.n.toNat (allowC (b.card d.n) d.sum b.time).1).getD k zeroC).m
    rw [getD_set _ _ _ _ _ hk, B.accC k hk2]
    split
    · rename_i e; subst e; rw [c2]; rfl
    · rfl
theorem ask_inv {b : Bank} {d : Dd} (I : Inv b) (h : (askB b d).2.1 = 0) : Inv (askB b d).1 := by
  unfold askB at h ⊢
  split at h
  · cases h
  rename_i h1
  rw [if_neg h1]
  split at h
  · rename_i h2; rw [if_pos h2]; exact askDown_inv I h2 h1 h
  · rename_i h2; rw [if_neg h2]; exact askUp_inv I (by simpa using h2) h1 h
end Go.Proofs.YtodkcagingnelacGreatDoor.Bn
