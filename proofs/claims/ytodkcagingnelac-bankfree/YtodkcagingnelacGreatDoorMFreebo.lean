import Derived.Deep.MidRow
import Derived.Test.YtodkcagingnelacGreatDoorMFreebc
namespace Go.Proofs.YtodkcagingnelacGreatDoor.Bn
open Go.RowKit Go.Proofs.YtodkcagingnelacGreatDoor.Gn
theorem wl_le' (i : Bool) : wl i ≤ 8 := by cases i <;> decide
structure Shown (w : World) (lab : Lab) (b : Bank) (v : Vs) (cs : List CV) (ds : List DV) : Prop where
  cards : Ap kC lab w v.c cs 0
  csv : cs.map CV.c = b.cards
  uses : ∀ x ∈ cs, Ap kU lab w (.slice x.a x.c.u.length x.cap) x.c.u 0
  due : Ap kI lab w v.d b.due 0
  auths : Ap kAu lab w v.a b.auths 0
  kept : ∀ i, Ap Po.kT lab w (v.kp i) (b.snd i).kept 0
  ways : ∀ i, Ap kP lab w (v.wy i) (b.way i) 0
  used : Ap kI lab w v.us b.stand.used 0
  adv : Ap St.kA lab w v.ad b.stand.adv 0
  today : Ap Dy.kR lab w v.td b.today 0
  days : Ap kD lab w v.dy ds 0
  dsv : ds.map DV.l = b.days
  files : ∀ x ∈ ds, Ap kB lab w (.slice x.a x.l.length x.cap) x.l 0
  book : Ap kU lab w v.bk b.book 0
/-- What is of label 0 stays. -/
structure Stq (w : World) (lab : Lab) (w' : World) (lab' : Lab) : Prop where
  ext : ∀ k, k < w.heap.size → lab' k = lab k
  os : w'.os = w.os
  tape : w'.tape = w.tape
  output : w'.output = w.output
  size : w.heap.size ≤ w'.heap.size
  block : ∀ k, k < w.heap.size → (lab k = 0 ∨ 10 < lab k) → w'.heap[k]? = w.heap[k]?
theorem Stq.refl (w : World) (lab : Lab) : Stq w lab w lab := ⟨fun _ _ => rfl, rfl, rfl, rfl, Nat.le_refl _, fun _ _ _ => rfl⟩
theorem Stq.trans {w w1 w2 : World} {lab lab1 lab2 : Lab} (h : Stq w lab w1 lab1) (h2 : Stq w1 lab1 w2 lab2) : Stq w lab w2 lab2 :=
  ⟨fun k hk => (h2.ext k (Nat.lt_of_lt_of_le hk h.size)).trans (h.ext k hk), h2.os.trans h.os, h2.tape.trans h.tape, h2.output.trans h.output, Nat.le_trans h.size h2.size, fun k hk hl => (h2.block k (Nat.lt_of_lt_of_le hk h.size) (by rw [h.ext k hk]; exact hl)).trans (h.block k hk hl)⟩
theorem stq_below {lab : Lab} {w w' : World} (h : Below w.heap.size w w') (j : Nat) : Stq w lab w' (relab lab w.heap.size j) :=
  ⟨fun _ hk => relab_old hk, h.os, h.tape, h.output, h.size, fun k hk _ => h.block k hk⟩
theorem Stq.drew {w w1 : World} {lab lab1 : Lab} (h : Stq w lab w1 lab1) : Stq w lab w1.drew lab1 :=
  have hb := (Below.refl 0 w1).drew
  ⟨h.ext, hb.os.trans h.os, hb.tape.trans h.tape, hb.output.trans h.output, h.size, h.block⟩
theorem ap_stq {α : Type} {K : Kind α} {lab lab' : Lab} {w w' : World} {v : Value} {L : List α} (h : Ap K lab w v L 0) (hs : w.heap.size ≤ w'.heap.size) (he : ∀ k, k < w.heap.size → lab' k = lab k) (hk : ∀ k, k < w.heap.size → lab k = 0 → w'.heap[k]? = w.heap[k]?) : Ap K lab' w' v L 0 := by
  obtain ⟨a, cap, hv, hl, hb⟩ := h
  by_cases h0 : L = []
  · exact ⟨a, cap, hv, lies_empty hl h0, fun _ _ hn => absurd h0 hn⟩
  · exact ⟨a, cap, hv, hl.keep hs fun ad ha hlt => hk _ hlt (hb ad ha h0), fun ad ha hn => (he _ (lies_lt hl h0 ad ha)).trans (hb ad ha hn)⟩
theorem Shown.go {w w' : World} {lab lab' : Lab} {b : Bank} {v : Vs} {cs : List CV} {ds : List DV} (h : Shown w lab b v cs ds) (hs : w.heap.size ≤ w'.heap.size) (he : ∀ k, k < w.heap.size → lab' k = lab k) (hk : ∀ k, k < w.heap.size → lab k = 0 → w'.heap[k]? = w.heap[k]?) : Shown w' lab' b v cs ds :=
  ⟨ap_stq h.cards hs he hk, h.csv, fun x hx => ap_stq (h.uses x hx) hs he hk, ap_stq h.due hs he hk, ap_stq h.auths hs he hk, fun i => ap_stq (h.kept i) hs he hk, fun i => ap_stq (h.ways i) hs he hk, ap_stq h.used hs he hk, ap_stq h.adv hs he hk,
    ap_stq h.today hs he hk, ap_stq h.days hs he hk, h.dsv, fun x hx => ap_stq (h.files x hx) hs he hk, ap_stq h.book hs he hk⟩
theorem Shown.stq {w w' : World} {lab lab' : Lab} {b : Bank} {v : Vs} {cs : List CV} {ds : List DV} (h : Shown w lab b v cs ds) (hs : Stq w lab w' lab') : Shown w' lab' b v cs ds :=
  h.go hs.size hs.ext fun k hk h0 => hs.block k hk (Or.inl h0)
theorem ap_shown {α : Type} {K : Kind α} {lab lab0 : Lab} {base : Nat} {w : World} {v : Value} {L : List α} {j : Nat} (h : Ap K lab w v L j) (hj : j ≤ 8) (hi : ∀ k, 1 ≤ lab k → lab k ≤ 8 → base ≤ k) (he : ∀ k, k < base → lab k = lab0 k) : Ap K (relab lab0 base 0) w v L 0 := by
  obtain ⟨a, cap, hv, hl, hb⟩ := h
  refine ⟨a, cap, hv, hl, fun ad ha hn => ?_⟩
  have hl := hb ad ha hn
  by_cases hk : ad.block < base
  · rw [relab_old hk, ← he _ hk, hl]
    rcases Nat.eq_zero_or_pos j with h0 | h0
    · exact h0
    · have := hi ad.block (by omega) (by omega); omega
  · exact relab_new (by omega)
theorem Mem.shown {w : World} {lab lab0 : Lab} {base : Nat} {b : Bank} {v : Vs} {cs : List CV} {ds : List DV} (h : Mem w lab base b v cs ds) (he : ∀ k, k < base → lab k = lab0 k) : Shown w (relab lab0 base 0) b v cs ds :=
  ⟨ap_shown h.cards.ap (by decide) h.hi he, h.csv, fun x hx => ap_shown (h.uses x hx) (by decide) h.hi he, ap_shown h.due.ap (by decide) h.hi he, ap_shown h.auths.ap (by decide) h.hi he, fun i => ap_shown (h.kept i) (by decide) h.hi he, fun i => ap_shown (h.ways i) (wl_le' i) h.hi he,
    ap_shown h.used (by decide) h.hi he, ap_shown h.adv (by decide) h.hi he, ap_shown h.today.ap (by decide) h.hi he, ap_shown h.days.ap (by decide) h.hi he, h.dsv, fun x hx => ap_shown (h.files x hx) (by decide) h.hi he, ap_shown h.book (by decide) h.hi he⟩
/-- A bank by value. -/
def bkv (b : Bank) (v : Vs) : Value := .agg #[.int .i64 b.time, .bool b.down, v.c, v.d, v.a, .int .i64 (b.snd false).sent, v.kp false, .int .i64 (b.snd true).sent, v.kp true, .int .i64 (b.seen false), .int .i64 (b.seen true), v.wy false, v.wy true, .int .i64 b.stand.cap, v.us, v.ad, v.td, v.dy, v.bk]
def cellsK (b : Bank) (v : Vs) : Array Value := #[.int .i64 b.time, .bool b.down, v.c, v.d, v.a, .int .i64 (b.snd false).sent, v.kp false, .int .i64 (b.snd true).sent, v.kp true, .int .i64 (b.seen false), .int .i64 (b.seen true), v.wy false, v.wy true, .int .i64 b.stand.cap, v.us, v.ad, v.td, v.dy, v.bk]
def bko (b : Bank) (v : Vs) : Obj := .cells (cellsK b v) 43
variable {α : Type}
structure Mx (K : Kind α) (e : TypeId) (lab : Lab) (base : Nat) (w : World) (v : Value) (L : List α) (j n : Nat) : Prop where
  done : j ≤ n → Tp K e lab base w v L j
  yet : n < j → Ap K lab w v L 0
theorem Mx.next {K : Kind α} {e : TypeId} {lab : Lab} {base : Nat} {w w' : World} {v : Value} {L : List α} {j n : Nat} (h : Mx K e lab base w v L j n) (ho : Only lab (n + 1) w w') (hj : j ≠ n + 1) : Mx K e (relab lab w.heap.size (n + 1)) base w' v L j (n + 1) :=
  ⟨fun q => (h.done (by omega)).move ho (Or.inr hj), fun q => (h.yet (by omega)).move ho (Or.inr (by omega))⟩
theorem Mx.far {K : Kind α} {e : TypeId} {lab : Lab} {base : Nat} {w w' : World} {v : Value} {L : List α} {i j n : Nat} (h : Mx K e lab base w v L j n) (ho : Only lab i w w') (hi : i = 0 ∨ 8 < i) (hj : j ≤ 8) : Mx K e (relab lab w.heap.size i) base w' v L j n :=
  ⟨fun q => (h.done q).move ho (by omega), fun q => (h.yet q).move ho (by omega)⟩
theorem Mx.drew {K : Kind α} {e : TypeId} {lab : Lab} {base : Nat} {w : World} {v : Value} {L : List α} {j n : Nat} (h : Mx K e lab base w v L j n) : Mx K e lab base w.drew v L j n :=
  have ho : Only lab 0 w w.drew := (Only.refl lab 0 w).drew
  ⟨fun q => (h.done q).stay ho (Or.inl rfl), fun q => (h.yet q).stay ho (Or.inl rfl)⟩
/-- It is copied. -/
theorem tp_copied {K : Kind α} {e : TypeId} {lab : Lab} {base : Nat} {w w' : World} {v' : Value} {L : List α} {j : Nat} (hr : Row K e w' base v' L) (hn : L ≠ [] → w'.ownsRow base e K.size v' L.length (K.flat L)) (ha : ∀ k, v'.ownBlock = some k → w.heap.size ≤ k) : Tp K e (relab lab w.heap.size j) base w' v' L j :=
  ⟨hr, hn, fun k hk => relab_new (ha k hk)⟩
theorem Mx.copied {K : Kind α} {e : TypeId} {lab : Lab} {base : Nat} {w w' : World} {v v' : Value} {L : List α} {n : Nat} (_ : Mx K e lab base w v L (n + 1) n) (hr : Row K e w' base v' L) (hn : L ≠ [] → w'.ownsRow base e K.size v' L.length (K.flat L)) (ha : ∀ k, v'.ownBlock = some k → w.heap.size ≤ k) : Mx K e (relab lab w.heap.size (n + 1)) base w' v' L (n + 1) (n + 1) :=
  ⟨fun _ => tp_copied hr hn ha, fun q => by omega⟩
/-- A bank of which the first lists are copied. -/
structure Mix (w : World) (lab : Lab) (base : Nat) (b : Bank) (v : Vs) (cs : List CV) (ds : List DV) (n : Nat) : Prop where
  cards : Mx kC 61 lab base w v.c cs 2 n
  csv : cs.map CV.c = b.cards
  uses : ∀ x ∈ cs, Ap kU lab w (.slice x.a x.c.u.length x.cap) x.c.u 0
  due : Mx kI 3 lab base w v.d b.due 3 n
  auths : Mx kAu 66 lab base w v.a b.auths 4 n
  kept : ∀ i, Ap Po.kT lab w (v.kp i) (b.snd i).kept 0
  ways : ∀ i, Mx kP 106 lab base w (v.wy i) (b.way i) (wl i) n
  used : Ap kI lab w v.us b.stand.used 0
  adv : Ap St.kA lab w v.ad b.stand.adv 0
  today : Mx Dy.kR 79 lab base w v.td b.today 7 n
  days : Mx kD 82 lab base w v.dy ds 8 n
  dsv : ds.map DV.l = b.days
  files : ∀ x ∈ ds, Ap kB lab w (.slice x.a x.l.length x.cap) x.l 0
  book : Ap kU lab w v.bk b.book 0
  hi : ∀ k, 1 ≤ lab k → lab k ≤ 8 → base ≤ k
  lo : base ≤ w.heap.size
theorem Shown.mix {w : World} {lab : Lab} {b : Bank} {v : Vs} {cs : List CV} {ds : List DV} (h : Shown w lab b v cs ds) (hl : ∀ k, lab k = 0 ∨ 8 < lab k) : Mix w lab w.heap.size b v cs ds 1 :=
  ⟨⟨fun q => by omega, fun _ => h.cards⟩, h.csv, h.uses, ⟨fun q => by omega, fun _ => h.due⟩, ⟨fun q => by omega, fun _ => h.auths⟩, h.kept, fun i => ⟨fun q => absurd q (by cases i <;> decide), fun _ => h.ways i⟩, h.used, h.adv,
    ⟨fun q => by omega, fun _ => h.today⟩, ⟨fun q => by omega, fun _ => h.days⟩, h.dsv, h.files, h.book, fun k h1 h2 => by have := hl k; omega, Nat.le_refl _⟩
theorem Mix.mem {w : World} {lab : Lab} {base : Nat} {b : Bank} {v : Vs} {cs : List CV} {ds : List DV} (h : Mix w lab base b v cs ds 8) : Mem w lab base b v cs ds ∧ ∀ i, Tp kP 106 lab base w (v.wy i) (b.way i) (wl i) :=
  ⟨⟨h.cards.done (by decide), h.csv, h.uses, h.due.done (by decide), h.auths.done (by decide), h.kept, fun i => ((h.ways i).done (wl_le' i)).ap, h.used, h.adv, h.today.done (by decide), h.days.done (by decide), h.dsv, h.files, h.book, h.hi, h.lo⟩, fun i => (h.ways i).done (wl_le' i)⟩
/-- Memory of the caller's own is written to. -/
theorem Mix.far {w w' : World} {lab : Lab} {base : Nat} {b : Bank} {v : Vs} {cs : List CV} {ds : List DV} {i n : Nat} (h : Mix w lab base b v cs ds n) (ho : Only lab i w w') (hi : i = 0 ∨ 8 < i) : Mix w' (relab lab w.heap.size i) base b v cs ds n :=
  ⟨h.cards.far ho hi (by decide), h.csv, fun x hx => (h.uses x hx).move ho (by omega), h.due.far ho hi (by decide), h.auths.far ho hi (by decide), fun k => (h.kept k).move ho (by omega), fun k => (h.ways k).far ho hi (wl_le' k), h.used.move ho (by omega), h.adv.move ho (by omega),
    h.today.far ho hi (by decide), h.days.far ho hi (by decide), h.dsv, fun x hx => (h.files x hx).move ho (by omega), h.book.move ho (by omega), hi_relab h.hi h.lo, Nat.le_trans h.lo ho.size⟩
theorem Mix.drew {w : World} {lab : Lab} {base : Nat} {b : Bank} {v : Vs} {cs : List CV} {ds : List DV} {n : Nat} (h : Mix w lab base b v cs ds n) : Mix w.drew lab base b v cs ds n :=
  have ho : Only lab 0 w w.drew := (Only.refl lab 0 w).drew
  ⟨h.cards.drew, h.csv, fun x hx => (h.uses x hx).stay ho (Or.inl rfl), h.due.drew, h.auths.drew, fun k => (h.kept k).stay ho (Or.inl rfl), fun k => (h.ways k).drew, h.used.stay ho (Or.inl rfl), h.adv.stay ho (Or.inl rfl),
    h.today.drew, h.days.drew, h.dsv, fun x hx => (h.files x hx).stay ho (Or.inl rfl), h.book.stay ho (Or.inl rfl), h.hi, h.lo⟩
theorem Mix.toCards {w w' : World} {lab : Lab} {base : Nat} {b : Bank} {v : Vs} {cs : List CV} {ds : List DV} (h : Mix w lab base b v cs ds 1) (hb : Below w.heap.size w w') {v' : Value} (hr : Row kC 61 w' base v' cs) (hn : cs ≠ [] → w'.ownsRow base 61 kC.size v' cs.length (kC.flat cs)) (ha : ∀ k, v'.ownBlock = some k → w.heap.size ≤ k) :
    Mix w' (relab lab w.heap.size 2) base b { v with c := v' } cs ds 2 :=
  have ho : Only lab 2 w w' := only_below hb
  ⟨h.cards.copied hr hn ha, h.csv, fun x hx => (h.uses x hx).move ho (by omega), h.due.next ho (by decide), h.auths.next ho (by decide), fun k => (h.kept k).move ho (by omega), fun k => (h.ways k).next ho (by cases k <;> decide), h.used.move ho (by omega), h.adv.move ho (by omega),
    h.today.next ho (by decide), h.days.next ho (by decide), h.dsv, fun x hx => (h.files x hx).move ho (by omega), h.book.move ho (by omega), hi_relab h.hi h.lo, Nat.le_trans h.lo ho.size⟩
theorem Mix.toDue {w w' : World} {lab : Lab} {base : Nat} {b : Bank} {v : Vs} {cs : List CV} {ds : List DV} (h : Mix w lab base b v cs ds 2) (hb : Below w.heap.size w w') {v' : Value} (hr : Row kI 3 w' base v' b.due) (hn : b.due ≠ [] → w'.ownsRow base 3 kI.size v' b.due.length (kI.flat b.due)) (ha : ∀ k, v'.ownBlock = some k → w.heap.size ≤ k) :
    Mix w' (relab lab w.heap.size 3) base b { v with d := v' } cs ds 3 :=
  have ho : Only lab 3 w w' := only_below hb
  ⟨h.cards.next ho (by decide), h.csv, fun x hx => (h.uses x hx).move ho (by omega), h.due.copied hr hn ha, h.auths.next ho (by decide), fun k => (h.kept k).move ho (by omega), fun k => (h.ways k).next ho (by cases k <;> decide), h.used.move ho (by omega), h.adv.move ho (by omega),
    h.today.next ho (by decide), h.days.next ho (by decide), h.dsv, fun x hx => (h.files x hx).move ho (by omega), h.book.move ho (by omega), hi_relab h.hi h.lo, Nat.le_trans h.lo ho.size⟩
theorem Mix.toAuths {w w' : World} {lab : Lab} {base : Nat} {b : Bank} {v : Vs} {cs : List CV} {ds : List DV} (h : Mix w lab base b v cs ds 3) (hb : Below w.heap.size w w') {v' : Value} (hr : Row kAu 66 w' base v' b.auths) (hn : b.auths ≠ [] → w'.ownsRow base 66 kAu.size v' b.auths.length (kAu.flat b.auths)) (ha : ∀ k, v'.ownBlock = some k → w.heap.size ≤ k) :
    Mix w' (relab lab w.heap.size 4) base b { v with a := v' } cs ds 4 :=
  have ho : Only lab 4 w w' := only_below hb
  ⟨h.cards.next ho (by decide), h.csv, fun x hx => (h.uses x hx).move ho (by omega), h.due.next ho (by decide), h.auths.copied hr hn ha, fun k => (h.kept k).move ho (by omega), fun k => (h.ways k).next ho (by cases k <;> decide), h.used.move ho (by omega), h.adv.move ho (by omega),
    h.today.next ho (by decide), h.days.next ho (by decide), h.dsv, fun x hx => (h.files x hx).move ho (by omega), h.book.move ho (by omega), hi_relab h.hi h.lo, Nat.le_trans h.lo ho.size⟩
theorem Mix.toWay {w w' : World} {lab : Lab} {base : Nat} {b : Bank} {v : Vs} {cs : List CV} {ds : List DV} {n : Nat} (i : Bool) (h : Mix w lab base b v cs ds n) (hi : wl i = n + 1) (hb : Below w.heap.size w w') {v' : Value} (hr : Row kP 106 w' base v' (b.way i)) (hn : b.way i ≠ [] → w'.ownsRow base 106 kP.size v' (b.way i).length (kP.flat (b.way i))) (ha : ∀ k, v'.ownBlock = some k → w.heap.size ≤ k) :
    Mix w' (relab lab w.heap.size (n + 1)) base b { v with wy := upd v.wy i v' } cs ds (n + 1) := by
  have ho : Only lab (n + 1) w w' := only_below hb
  have n2 := wl_ne i 2 (by omega)
  have n3 := wl_ne i 3 (by omega)
  have n4 := wl_ne i 4 (by omega)
  have n7 := wl_ne i 7 (by omega)
  have n8 := wl_ne i 8 (by omega)
  refine ⟨h.cards.next ho (by omega), h.csv, fun x hx => (h.uses x hx).move ho (by omega), h.due.next ho (by omega), h.auths.next ho (by omega), fun k => (h.kept k).move ho (by omega), fun k => ?_, h.used.move ho (by omega), h.adv.move ho (by omega),
    h.today.next ho (by omega), h.days.next ho (by omega), h.dsv, fun x hx => (h.files x hx).move ho (by omega), h.book.move ho (by omega), hi_relab h.hi h.lo, Nat.le_trans h.lo ho.size⟩
  show Mx kP 106 _ base w' (upd v.wy i v' k) (b.way k) (wl k) (n + 1)
  unfold upd
  by_cases e : k = i
  · subst e
    rw [if_pos rfl, hi]
    have := h.ways k
    rw [hi] at this
    exact this.copied hr hn ha
  · rw [if_neg e]
    exact (h.ways k).next ho (by rw [← hi]; exact wl_other e)
theorem Mix.toToday {w w' : World} {lab : Lab} {base : Nat} {b : Bank} {v : Vs} {cs : List CV} {ds : List DV} (h : Mix w lab base b v cs ds 6) (hb : Below w.heap.size w w') {v' : Value} (hr : Row Dy.kR 79 w' base v' b.today) (hn : b.today ≠ [] → w'.ownsRow base 79 Dy.kR.size v' b.today.length (Dy.kR.flat b.today)) (ha : ∀ k, v'.ownBlock = some k → w.heap.size ≤ k) :
    Mix w' (relab lab w.heap.size 7) base b { v with td := v' } cs ds 7 :=
  have ho : Only lab 7 w w' := only_below hb
  ⟨h.cards.next ho (by decide), h.csv, fun x hx => (h.uses x hx).move ho (by omega), h.due.next ho (by decide), h.auths.next ho (by decide), fun k => (h.kept k).move ho (by omega), fun k => (h.ways k).next ho (by cases k <;> decide), h.used.move ho (by omega), h.adv.move ho (by omega),
    h.today.copied hr hn ha, h.days.next ho (by decide), h.dsv, fun x hx => (h.files x hx).move ho (by omega), h.book.move ho (by omega), hi_relab h.hi h.lo, Nat.le_trans h.lo ho.size⟩
theorem Mix.toDays {w w' : World} {lab : Lab} {base : Nat} {b : Bank} {v : Vs} {cs : List CV} {ds : List DV} (h : Mix w lab base b v cs ds 7) (hb : Below w.heap.size w w') {v' : Value} (hr : Row kD 82 w' base v' ds) (hn : ds ≠ [] → w'.ownsRow base 82 kD.size v' ds.length (kD.flat ds)) (ha : ∀ k, v'.ownBlock = some k → w.heap.size ≤ k) :
    Mix w' (relab lab w.heap.size 8) base b { v with dy := v' } cs ds 8 :=
  have ho : Only lab 8 w w' := only_below hb
  ⟨h.cards.next ho (by decide), h.csv, fun x hx => (h.uses x hx).move ho (by omega), h.due.next ho (by decide), h.auths.next ho (by decide), fun k => (h.kept k).move ho (by omega), fun k => (h.ways k).next ho (by cases k <;> decide), h.used.move ho (by omega), h.adv.move ho (by omega),
    h.today.next ho (by decide), h.days.copied hr hn ha, h.dsv, fun x hx => (h.files x hx).move ho (by omega), h.book.move ho (by omega), hi_relab h.hi h.lo, Nat.le_trans h.lo ho.size⟩
abbrev Shows (w : World) (b : Bank) (v : Vs) (cs : List CV) (ds : List DV) : Prop := Shown w (fun _ => 0) b v cs ds
theorem ap_plain {K : Kind α} {lab : Lab} {w : World} {v : Value} {L : List α} {j : Nat} (h : Ap K lab w v L j) : Ap K (fun _ => 0) w v L 0 := by
  obtain ⟨a, cap, hv, hl, -⟩ := h
  exact ⟨a, cap, hv, hl, fun _ _ _ => rfl⟩
theorem Shown.shows {w : World} {lab : Lab} {b : Bank} {v : Vs} {cs : List CV} {ds : List DV} (h : Shown w lab b v cs ds) : Shows w b v cs ds :=
  ⟨ap_plain h.cards, h.csv, fun x hx => ap_plain (h.uses x hx), ap_plain h.due, ap_plain h.auths, fun i => ap_plain (h.kept i), fun i => ap_plain (h.ways i), ap_plain h.used, ap_plain h.adv, ap_plain h.today, ap_plain h.days, h.dsv, fun x hx => ap_plain (h.files x hx), ap_plain h.book⟩
theorem Shown.below {w w' : World} {b : Bank} {v : Vs} {cs : List CV} {ds : List DV} (h : Shows w b v cs ds) (hb : Below w.heap.size w w') : Shows w' b v cs ds :=
  h.go hb.size (fun _ _ => rfl) fun k hk _ => hb.block k hk
end Go.Proofs.YtodkcagingnelacGreatDoor.Bn
namespace Go.Proofs.YtodkcagingnelacGreatDoor.Bn
open Go.RowKit Go.Proofs.YtodkcagingnelacGreatDoor.Gn
theorem putAll_cells (l : List Value) : ∀ (w : World) (g p : Nat), w.setCells g p l = putAll w g p l := by
  induction l with
  | nil => intro w g p; rfl
  | cons x r ih => intro w g p; exact ih _ _ _
theorem range_blk {w : World} {g : Nat} {cs : Array Value} {t : TypeId} (h : w.heap[g]? = some (.cells cs t)) {l : List Value} (hl : ∀ (j : Nat) (v : Value), l[j]? = some v → cs[j]? = some v) : w.rangeAt g 0 l := fun j v hj => by
  rw [Nat.zero_add, cell_of_row w g j cs t _ h]
  exact hl j v hj
theorem there_blk {w : World} {g : Nat} {cs : Array Value} {t : TypeId} (h : w.heap[g]? = some (.cells cs t)) {n : Nat} (hn : n ≤ cs.size) : w.there g 0 n := fun j hj => by
  rw [Nat.zero_add]
  refine ⟨?_, by simp [World.frozen?, h]⟩
  rw [cell_of_row w g j cs t _ h]
  simp; omega
theorem ap_one {α : Type} {K : Kind α} {lab : Lab} {w : World} {v : Value} {L : List α} {j : Nat} (h : Ap K lab w v L j) : v.oneCell' = true := by
  obtain ⟨a, cap, rfl, -⟩ := h
  rfl
theorem Shown.one {w : World} {lab : Lab} {b : Bank} {v : Vs} {cs : List CV} {ds : List DV} (h : Shown w lab b v cs ds) : (cellsK b v).all (·.oneCell') = true := by
  have h1 := ap_one h.cards
  have h2 := ap_one h.due
  have h3 := ap_one h.auths
  have h4 := ap_one (h.kept false)
  have h5 := ap_one (h.kept true)
  have h6 := ap_one (h.ways false)
  have h7 := ap_one (h.ways true)
  have h8 := ap_one h.used
  have h9 := ap_one h.adv
  have h10 := ap_one h.today
  have h11 := ap_one h.days
  have h12 := ap_one h.book
  have i1 : ∀ (k : IntKind) (n : Int), (Value.int k n).oneCell' = true := fun _ _ => rfl
  have i2 : ∀ x : Bool, (Value.bool x).oneCell' = true := fun _ => rfl
  rw [← Array.all_toList]
  show List.all [.int .i64 b.time, .bool b.down, v.c, v.d, v.a, .int .i64 (b.snd false).sent, v.kp false, .int .i64 (b.snd true).sent, v.kp true, .int .i64 (b.seen false), .int .i64 (b.seen true), v.wy false, v.wy true, .int .i64 b.stand.cap, v.us, v.ad, v.td, v.dy, v.bk] (fun x => x.oneCell') = true
  simp only [List.all_cons, List.all_nil, h1, h2, h3, h4, h5, h6, h7, h8, h9, h10, h11, h12, i1, i2, Bool.and_true]
theorem underK : ∃ d, Tryz.prog.underlying 43 = some d ∧ d.isRow = true := ⟨_, Tryz.underlying43, rfl⟩
theorem infoK : (Tryz.prog.info? 43).map (·.size) = some 19 := by kernel_rfl
theorem cellsK_in (b : Bank) (v : Vs) (tm : Value) : ∀ (j : Nat) (u : Value), (cellsK b v).toList[j]? = some u → (cellsB b v tm)[j]? = some u := by
  intro j u h
  have e : (cellsB b v tm).toList = (cellsK b v).toList ++ [tm] := rfl
  rw [← Array.getElem?_toList, e]
  exact (List.getElem?_append_left (List.getElem?_eq_some_iff.1 h).1).trans h
theorem bko_load {w : World} {g : Nat} {b : Bank} {v : Vs} (h : w.heap[g]? = some (bko b v)) : w.rangeAt g 0 (cellsK b v).toList := range_blk h fun j v hj => by rw [← Array.getElem?_toList]; exact hj
theorem blk_load {w : World} {g : Nat} {b : Bank} {v : Vs} {tm : Value} (h : w.heap[g]? = some (blkB b v tm)) : w.rangeAt g 0 (cellsK b v).toList := range_blk h (cellsK_in b v tm)
theorem bko_there {w : World} {g : Nat} {b b' : Bank} {v v' : Vs} (h : w.heap[g]? = some (bko b v)) : w.there g 0 (cellsK b' v').size := there_blk h (Nat.le_refl _)
theorem blk_there {w : World} {g : Nat} {b b' : Bank} {v v' : Vs} {tm : Value} (h : w.heap[g]? = some (blkB b v tm)) : w.there g 0 (cellsK b' v').size := there_blk h (by show 19 ≤ 20; decide)
/-- The first cells of a bank that goes on are written anew. -/
theorem blk_all {w : World} {z : Nat} {b1 b : Bank} {v1 v : Vs} {tm : Value} (h : w.heap[z]? = some (blkB b1 v1 tm)) : (putAll w z 0 (cellsK b v).toList).heap[z]? = some (blkB b v tm) := by
  unfold blkB at h ⊢
  have := putAll_same (cellsK b v).toList w z [] (cellsK b1 v1).toList [tm] 93 rfl (by rw [h]; rfl)
  rw [show (0 : Nat) = ([] : List Value).length from rfl, this]
  rfl
theorem bko_all {w : World} {z : Nat} {b1 b : Bank} {v1 v : Vs} (h : w.heap[z]? = some (bko b1 v1)) : (putAll w z 0 (cellsK b v).toList).heap[z]? = some (bko b v) := by
  unfold bko at h ⊢
  have := putAll_same (cellsK b v).toList w z [] (cellsK b1 v1).toList [] 43 rfl (by rw [h]; rfl)
  rw [show (0 : Nat) = ([] : List Value).length from rfl, this]
  rfl
/-- A bank as a result. -/
theorem loadVar_bank {w : World} {g : Nat} {b : Bank} {v : Vs} (h : w.heap[g]? = some (bko b v)) : (loadVar 43 ⟨g, 0, none⟩).run Tryz.prog w = .ok (bkv b v) w := by
  obtain ⟨d, h1, h2⟩ := underK
  exact run_loadVar_mid w g 0 43 (cellsK b v).toList d (bko_load h) h1 h2 infoK
theorem results_cell {P : Program} {fn : Func} {tmps : Array Value} {w : World} {a : Nat} {t : TypeId} {ad : Addr} {v : Value} (hf : fn.results = #[.cell a t]) (ha : tmps[a]?.getD undef = .pointer (some ad)) (hl : (loadVar t ad).run P w = .ok v w) : (results fn tmps).run P w = .ok v w := by
  unfold results
  rw [hf]
  simp [asAddr, ha, hl]
theorem results_csc {P : Program} {fn : Func} {tmps : Array Value} {w : World} {a b c : Nat} {t1 t3 : TypeId} {a1 a3 : Addr} {v1 v2 v3 : Value} (hf : fn.results = #[.cell a t1, .tmp b, .cell c t3]) (ha : tmps[a]?.getD undef = .pointer (some a1)) (hb : tmps[b]?.getD undef = v2) (hc : tmps[c]?.getD undef = .pointer (some a3)) (h1 : (loadVar t1 a1).run P w = .ok v1 w) (h3 : (loadVar t3 a3).run P w = .ok v3 w) : (results fn tmps).run P w = .ok (.tuple #[v1, v2, v3]) w := by
  unfold results
  rw [hf]
  simp [asAddr, ha, hb, hc, h1, h3]
theorem kind_one {α : Type} (K : Kind α) (x : α) : (K.cells x).toArray.all (·.oneCell') = true := Array.all_eq_true_iff_forall_mem.2 fun u hu => K.one x u (by simpa using hu)
theorem bkv_cells (b : Bank) (v : Vs) : bkv b v = .agg (cellsK b v) := rfl
end Go.Proofs.YtodkcagingnelacGreatDoor.Bn
