import Derived.Test.YtofcnebekmjdoaaGreatDoorKbu
import Derived.Test.YtofcnebekmjdoaaGreatDoorLBdayaa
set_option maxHeartbeats 4000000
set_option maxRecDepth 100000
namespace Go.Proofs.YtofcnebekmjdoaaGreatDoor.Bn
open Go.Proofs.YtofcnebekmjdoaaGreatDoor
structure Alike (s t : Bank × List (Dd × An)) : Prop where
 bank : s.1 = t.1
 told : ∀ id, id ≠ 0 → told id s.2 = told id t.2
theorem Alike.again {s t : Bank × List (Dd × An)} (h : Alike s t) {d : Dd} (h0 : d.id ≠ 0) {a : An} (ha : Bn.told d.id t.2 = some a) : Alike s (play1 t d) := by
 unfold play1
 rw [if_neg h0, ha]
 refine ⟨h.bank, fun id hid => ?_⟩
 dsimp only
 rw [told_append, h.told id hid]
 cases e : Bn.told id t.2 with
 | some x => rfl
 | none =>
  dsimp only
  simp only [Bn.told]
  split
  ·rename_i e2; rw [← e2, ha] at e; cases e
  ·rfl
def First (L : List (Dd × An)) : Prop := ∀ x ∈ L, x.1.id ≠ 0 → told x.1.id L = some x.2
theorem first_play {s : Bank × List (Dd × An)} (h : First s.2) (d : Dd) : First (play1 s d).2 := by
 intro x hx h0
 unfold play1 at hx ⊢
 split at hx
 ·rename_i a e
  dsimp only at hx ⊢
  rcases List.mem_append.1 hx with hx | hx
  ·rw [told_append, h x hx h0]
  ·obtain rfl := List.mem_singleton.1 hx
   dsimp only at h0 ⊢
   rw [if_neg h0] at e
   rw [told_append, e]
 ·rename_i e
  dsimp only at hx ⊢
  rcases List.mem_append.1 hx with hx | hx
  ·rw [told_append, h x hx h0]
  ·obtain rfl := List.mem_singleton.1 hx
   dsimp only at h0 ⊢
   rw [if_neg h0] at e
   rw [told_append, e]
   simp [told]
theorem first_all (l : List Dd) : ∀ s : Bank × List (Dd × An), First s.2 → First (l.foldl play1 s).2 := by
 induction l with
 | nil => intro s h; exact h
 | cons d r ih => intro s h; exact ih _ (first_play h d)
theorem first_playL (b : Bank) (l : List Dd) : First (playL b l).2 := first_all l (b, []) fun x hx => by cases hx
def dayStep (shopOf : Int → Int) (s : Ds) (x : Dd × An) : Ds :=
 if x.1.id ≠ 0 ∧ x.1.id ∈ s.had then s
 else if x.2.1 ≠ 0 then ⟨x.1.id :: s.had, s.today, s.days⟩
 else if x.1.kind = 3 then ⟨x.1.id :: s.had, s.today ++ [⟨shopOf x.1.n, x.1.n, x.1.mv, x.1.sum⟩], s.days⟩
 else if x.1.kind = 10 then ⟨x.1.id :: s.had, [], s.days ++ [s.today]⟩
 else ⟨x.1.id :: s.had, s.today, s.days⟩
def dayAll (shopOf : Int → Int) (L : List (Dd × An)) : Ds := L.foldl (dayStep shopOf) ⟨[], [], []⟩
theorem dayAll_snoc (shopOf : Int → Int) (L : List (Dd × An)) (x : Dd × An) : dayAll shopOf (L ++ [x]) = dayStep shopOf (dayAll shopOf L) x := by unfold dayAll; simp
structure Told (s : Bank × List (Dd × An)) : Prop where
 all : ∀ shopOf : Int → Int, (∀ n : Nat, n < s.1.auths.length → shopOf n = (s.1.auths.getD n zA).shop) →
  (∀ id, id ≠ 0 → (id ∈ (dayAll shopOf s.2).had ↔ told id s.2 ≠ none)) ∧ (dayAll shopOf s.2).today = s.1.today ∧ s.1.days = (dayAll shopOf s.2).days.map Dy.fileB ∧ ∀ t ∈ (dayAll shopOf s.2).days, Dy.Right t
theorem told_new {id : Int} {L : List (Dd × An)} {x : Dd × An} : told id (L ++ [x]) ≠ none ↔ told id L ≠ none ∨ x.1.id = id := by
 rw [told_append]
 cases e : told id L with
 | some a => simp
 | none =>
  simp only [told]
  split
  ·rename_i h; simp [h]
  ·rename_i h; simp [h]
theorem Told.play {s : Bank × List (Dd × An)} (h : Told s) (I : Inv s.1) (d : Dd) : Told (play1 s d) := by
 refine ⟨fun shopOf hs => ?_⟩
 unfold play1 at hs ⊢
 split at hs
 ·-- said again
  rename_i a e
  dsimp only at hs ⊢
  obtain ⟨h1, h2, h3, h4⟩ := h.all shopOf hs
  have h0 : d.id ≠ 0 := by
   intro h0; rw [if_pos h0] at e; cases e
  rw [if_neg h0] at e
  have hin : d.id ∈ (dayAll shopOf s.2).had := (h1 d.id h0).2 (by rw [e]; simp)
  have hsame : dayAll shopOf (s.2 ++ [(d, a)]) = dayAll shopOf s.2 := by
   rw [dayAll_snoc]; unfold dayStep; rw [if_pos ⟨h0, hin⟩]
  rw [hsame]
  refine ⟨fun id hid => ?_, h2, h3, h4⟩
  rw [h1 id hid, told_new]
  exact ⟨Or.inl, fun h5 => by rcases h5 with h5 | h5; exact h5; dsimp only at h5; rw [← h5, e]; simp⟩
 ·rename_i e
  dsimp only at hs ⊢
  have hst : Stays s.1 (doB s.1 d).1 := by
   by_cases h3 : d.kind = 3
   ·by_cases hz : (doB s.1 d).2.1 = 0
    ·exact (do_move h3 hz).2.2.1
    ·rw [doB_refused _ _ hz]; exact stays_refl _
   ·by_cases h10 : d.kind = 10
    ·rw [do_day h10]; exact stays_same rfl
    ·exact (do_quiet h3 h10).stays
  obtain ⟨h1, h2, h3, h4⟩ := h.all shopOf fun n hn => (hs n (Nat.lt_of_lt_of_le hn hst.1)).trans (hst.2 n hn)
  have hnew : ¬ (d.id ≠ 0 ∧ d.id ∈ (dayAll shopOf s.2).had) := fun ⟨h0, hin⟩ => by
   rw [if_neg h0] at e
   exact (h1 d.id h0).1 hin e
  have hhad : ∀ (t : List Dy.Rc) (ds : List (List Dy.Rc)) (x : An), dayAll shopOf (s.2 ++ [(d, x)]) = ⟨d.id :: (dayAll shopOf s.2).had, t, ds⟩ → ∀ id, id ≠ 0 → (id ∈ (dayAll shopOf (s.2 ++ [(d, x)])).had ↔ told id (s.2 ++ [(d, x)]) ≠ none) := fun t ds x hx id hid => by
   rw [hx, told_new, ← h1 id hid]
   dsimp only
   rw [List.mem_cons]
   exact ⟨fun h5 => by rcases h5 with h5 | h5; exact Or.inr h5.symm; exact Or.inl h5, fun h5 => by rcases h5 with h5 | h5; exact Or.inr h5; exact Or.inl h5.symm⟩
  by_cases hz : (doB s.1 d).2.1 = 0
  case neg =>
   have hx : dayAll shopOf (s.2 ++ [(d, ((doB s.1 d).2.1, (doB s.1 d).2.2))]) = ⟨d.id :: (dayAll shopOf s.2).had, (dayAll shopOf s.2).today, (dayAll shopOf s.2).days⟩ := by
    rw [dayAll_snoc]; unfold dayStep; rw [if_neg hnew, if_pos hz]
   refine ⟨hhad _ _ _ hx, ?_, ?_, ?_⟩
   ·rw [hx, doB_refused _ _ hz]; exact h2
   ·rw [hx, doB_refused _ _ hz]; exact h3
   ·rw [hx]; exact h4
  by_cases k3 : d.kind = 3
  ·obtain ⟨n0, n1, -, t1, t2⟩ := do_move k3 hz
   have hx : dayAll shopOf (s.2 ++ [(d, ((doB s.1 d).2.1, (doB s.1 d).2.2))]) = ⟨d.id :: (dayAll shopOf s.2).had, (dayAll shopOf s.2).today ++ [⟨shopOf d.n, d.n, d.mv, d.sum⟩], (dayAll shopOf s.2).days⟩ := by
    rw [dayAll_snoc]; unfold dayStep; rw [if_neg hnew, if_neg (by simpa using hz), if_pos k3]
   have hsh : shopOf d.n = (s.1.auth d.n).shop := by
    have := hs d.n.toNat (Nat.lt_of_lt_of_le (by omega) hst.1)
    rw [show ((d.n.toNat : Nat) : Int) = d.n by omega] at this
    rw [this]
    exact hst.2 d.n.toNat (by omega)
   refine ⟨hhad _ _ _ hx, ?_, ?_, ?_⟩
   ·rw [hx, t1, hsh, h2]
   ·rw [hx, t2]; exact h3
   ·rw [hx]; exact h4
  by_cases k10 : d.kind = 10
  ·have hx : dayAll shopOf (s.2 ++ [(d, ((doB s.1 d).2.1, (doB s.1 d).2.2))]) = ⟨d.id :: (dayAll shopOf s.2).had, [], (dayAll shopOf s.2).days ++ [(dayAll shopOf s.2).today]⟩ := by
    rw [dayAll_snoc]; unfold dayStep; rw [if_neg hnew, if_neg (by simpa using hz), if_neg k3, if_pos k10]
   refine ⟨hhad _ _ _ hx, ?_, ?_, ?_⟩
   ·rw [hx, do_day k10]; rfl
   ·rw [hx, do_day k10]
    show s.1.days ++ [Dy.fileB s.1.today] = _
    rw [h3, ← h2]; simp
   ·rw [hx]
    intro t ht
    rcases List.mem_append.1 ht with ht | ht
    ·exact h4 t ht
    ·obtain rfl := List.mem_singleton.1 ht
     rw [h2]; exact I.held.today
  ·have hx : dayAll shopOf (s.2 ++ [(d, ((doB s.1 d).2.1, (doB s.1 d).2.2))]) = ⟨d.id :: (dayAll shopOf s.2).had, (dayAll shopOf s.2).today, (dayAll shopOf s.2).days⟩ := by
    rw [dayAll_snoc]; unfold dayStep; rw [if_neg hnew, if_neg (by simpa using hz), if_neg k3, if_neg k10]
   have hq := do_quiet (b := s.1) k3 k10
   refine ⟨hhad _ _ _ hx, ?_, ?_, ?_⟩
   ·rw [hx, hq.today]; exact h2
   ·rw [hx, hq.days]; exact h3
   ·rw [hx]; exact h4
theorem days_play {b : Bank} (I : Inv b) (h1 : b.today = []) (h2 : b.days = []) (l : List Dd) : Told (playL b l) := by
 have key : ∀ (l : List Dd) (s : Bank × List (Dd × An)), Inv s.1 → Told s → Told (l.foldl play1 s) := by
  intro l
  induction l with
  | nil => intro s _ h; exact h
  | cons d r ih => intro s hI h; exact ih _ (play1_inv hI d) (h.play hI d)
 refine key l (b, []) I ⟨fun shopOf _ => ?_⟩
 refine ⟨fun id _ => ?_, h1.symm, h2, fun t ht => by cases ht⟩
 simp [dayAll, told]
theorem dayStep_days (shopOf : Int → Int) (s : Ds) (x : Dd × An) : ∃ m, (dayStep shopOf s x).days = s.days ++ m := by
 unfold dayStep
 split
 ·exact ⟨[], by simp⟩
 split
 ·exact ⟨[], by simp⟩
 split
 ·exact ⟨[], by simp⟩
 split
 ·exact ⟨_, rfl⟩
 ·exact ⟨[], by simp⟩
theorem dayFold_days (shopOf : Int → Int) (L : List (Dd × An)) : ∀ s : Ds, ∃ m, (L.foldl (dayStep shopOf) s).days = s.days ++ m := by
 induction L with
 | nil => intro s; exact ⟨[], by simp⟩
 | cons x r ih =>
  intro s
  obtain ⟨m1, h1⟩ := dayStep_days shopOf s x
  obtain ⟨m2, h2⟩ := ih (dayStep shopOf s x)
  exact ⟨m1 ++ m2, by rw [List.foldl_cons, h2, h1, List.append_assoc]⟩
theorem dayAll_take (shopOf : Int → Int) (L : List (Dd × An)) (k : Nat) : ∃ m, (dayAll shopOf L).days = (dayAll shopOf (L.take k)).days ++ m := by
 have : dayAll shopOf L = (L.drop k).foldl (dayStep shopOf) (dayAll shopOf (L.take k)) := by
  unfold dayAll
  rw [← List.foldl_append, List.take_append_drop]
 rw [this]; exact dayFold_days _ _ _
open Go.RowKit Go.Proofs.YtofcnebekmjdoaaGreatDoor.Gn
theorem Hand.same {w : World} {g base : Nat} {lab : Lab} {b : Bank} {v : Vs} {cs : List CV} {ds : List DV} {tm : Value} (H : Hand w g base lab b v cs ds tm) : Goes w g base lab b tm := H.goes
open Go.RowKit Go.Proofs.YtofcnebekmjdoaaGreatDoor.Gn
variable {α : Type}
theorem Shown.below {w w' : World} {b : Bank} {v : Vs} {cs : List CV} {ds : List DV} (h : Shows w b v cs ds) (hb : Below w.heap.size w w') : Shows w' b v cs ds :=
 h.go hb.size (fun _ _ => rfl) fun k hk _ => hb.block k hk
open Go.ChangeShapes Go.WideShapes Go.ChangeAt Go.RowKit Go.Proofs.YtofcnebekmjdoaaGreatDoor.Gn
theorem cellsPace : Tryz.prog.cellsOf 58 = 3 := by kernel_rfl
theorem cellsDo : Tryz.prog.cellsOf 74 = 6 := by kernel_rfl
theorem cellsSetup : Tryz.prog.cellsOf 24 = 3 := by kernel_rfl
theorem cellsPaces : Tryz.prog.cellsOf 22 = 1 := by kernel_rfl
theorem six {l : List Value} (h : l.length = 6) : ∃ a b c d e f, l = [a, b, c, d, e, f] := by
 match l, h with
 | [a, b, c, d, e, f], _ => exact ⟨a, b, c, d, e, f, rfl⟩
theorem open_pa {H : Type} {enc : TypeId × Value → H} {W : World} {base : Nat} {spare : Nat → Bool} {held : Bool} (n : Nat) (cs : List Value) (x : DataW H × List MemPlace)
  (h : DataW.trod enc Tryz.prog W base spare held n 58 cs = some x) : ∃ p : Pa, cs = kPa.cells p ∧ True := by
 obtain ⟨xs, m, -, -, hcl, hlen, hF⟩ := DataW.trod_struct Tryz.underlying58 h
 rw [cellsPace] at hcl
 obtain ⟨c0, c1, c2, rfl⟩ := three hcl
 have hlen' : xs.length = 3 := hlen
 have g0 := hF 0 _ rfl
 have g1 := hF 1 _ rfl
 have g2 := hF 2 _ rfl
 obtain ⟨x0, rfl, -⟩ := field_int (v := c0) g0 hlen' (by omega)
 obtain ⟨x1, rfl, -⟩ := field_int (v := c1) g1 hlen' (by omega)
 obtain ⟨x2, rfl, -⟩ := field_int (v := c2) g2 hlen' (by omega)
 exact ⟨⟨x0, x1, x2⟩, rfl, trivial⟩
theorem open_do {H : Type} {enc : TypeId × Value → H} {W : World} {base : Nat} {spare : Nat → Bool} {held : Bool} (n : Nat) (cs : List Value) (x : DataW H × List MemPlace)
  (h : DataW.trod enc Tryz.prog W base spare held n 74 cs = some x) : ∃ d : Dd, cs = kDd.cells d ∧ FitD d := by
 obtain ⟨xs, m, -, -, hcl, hlen, hF⟩ := DataW.trod_struct Tryz.underlying74 h
 rw [cellsDo] at hcl
 obtain ⟨c0, c1, c2, c3, c4, c5, rfl⟩ := six hcl
 have hlen' : xs.length = 6 := hlen
 have g0 := hF 0 _ rfl
 have g1 := hF 1 _ rfl
 have g2 := hF 2 _ rfl
 have g3 := hF 3 _ rfl
 have g4 := hF 4 _ rfl
 have g5 := hF 5 _ rfl
 obtain ⟨x0, rfl, hx⟩ := field_int (v := c0) g0 hlen' (by omega)
 obtain ⟨x1, rfl, -⟩ := field_int (v := c1) g1 hlen' (by omega)
 obtain ⟨x2, rfl, -⟩ := field_int (v := c2) g2 hlen' (by omega)
 obtain ⟨x3, rfl, -⟩ := field_int (v := c3) g3 hlen' (by omega)
 obtain ⟨x4, rfl, -⟩ := field_int (v := c4) g4 hlen' (by omega)
 obtain ⟨x5, rfl, -⟩ := field_int (v := c5) g5 hlen' (by omega)
 exact ⟨⟨x0, x1, x2, x3, x4, x5⟩, rfl, hx⟩
theorem open_dos {H : Type} {enc : TypeId × Value → H} {W : World} {base : Nat} {spare : Nat → Bool} {held : Bool} {a : Option Addr} {len cap : Nat} {d : DataW H} {p : List MemPlace}
  (h : DataW.Trod enc Tryz.prog W base spare held 25 (.slice a len cap) d p) : ∃ l : List Dd, len = l.length ∧ Gn.Lies kDd W a cap l ∧ ∀ d ∈ l, FitD d := by
 obtain ⟨fuel, hf⟩ := h
 obtain ⟨L, h1, h2, h3, -⟩ := open_list (⟨0, 0, 0, 0, 0, 0⟩ : Dd) kDd FitD Tryz.underlying25 cellsDo open_do hf
 exact ⟨L, h1, h2, h3⟩
theorem open_setup {H : Type} {enc : TypeId × Value → H} {W : World} {base b0 : Nat} {r : Reach} {spare : Nat → Bool} {held : Bool} {v : Value} {d : DataW H} {p : List MemPlace}
  (hv : Value.okWide Tryz.prog W r b0 24 v) (h : DataW.Trod enc Tryz.prog W base spare held 24 v d p) : ∃ (ps : List Pa) (a : Option Addr) (cap : Nat) (shops c : Int), v = suv (.slice a ps.length cap) shops c ∧ Gn.Lies kPa W a cap ps := by
 obtain ⟨cs, rfl, hsz⟩ := okWide_struct Tryz.underlying24 hv
 obtain ⟨c0, c1, c2, rfl⟩ : ∃ c0 c1 c2, cs = #[c0, c1, c2] := by
  obtain ⟨l⟩ := cs
  obtain ⟨c0, c1, c2, rfl⟩ := three (l := l) (hsz.trans cellsSetup)
  exact ⟨c0, c1, c2, rfl⟩
 obtain ⟨fuel, hf⟩ := h
 obtain ⟨xs, n, -, -, -, hlen, hF⟩ := DataW.trod_struct Tryz.underlying24 hf
 have hlen' : xs.length = 3 := hlen
 have g0 : DataW.trod enc Tryz.prog W base spare held n 22 (List.take (Tryz.prog.cellsOf 22) (List.drop 0 [c0, c1, c2])) = xs[0]? := hF 0 _ rfl
 have g1 := hF 1 _ rfl
 have g2 := hF 2 _ rfl
 simp only [Value.cells] at g1 g2
 rw [cellsPaces] at g0
 have g0 : DataW.trod enc Tryz.prog W base spare held n 22 [c0] = xs[0]? := g0
 obtain ⟨x1, rfl, -⟩ := field_int (v := c1) g1 hlen' (by omega)
 obtain ⟨x2, rfl, -⟩ := field_int (v := c2) g2 hlen' (by omega)
 obtain ⟨y1, hy1⟩ := at_some hlen' (show 0 < 3 by omega)
 have e1 := g0.trans hy1
 have hs : ∃ a len cap, c0 = .slice a len cap := by
  rcases Go.Deep.open_slice Tryz.underlying22 e1 with ⟨hcs, -⟩ | ⟨ad, l, c, m, n, D, Pl, hcs, -⟩
  ·exact ⟨none, 0, 0, by simpa using hcs⟩
  ·exact ⟨some ad, l, c, by simpa using hcs⟩
 obtain ⟨a, len, cap, rfl⟩ := hs
 obtain ⟨L, rfl, hL, -, -⟩ := open_list (⟨0, 0, 0⟩ : Pa) kPa (fun _ => True) Tryz.underlying22 cellsPace open_pa e1
 exact ⟨L, a, cap, x1, x2, rfl, hL⟩
open Go.RowKit Go.Proofs.YtofcnebekmjdoaaGreatDoor.Gn Go.Maps
def psA : List Pa := [⟨10, 5, 1000⟩]
def ddA : List Dd := [⟨0, 1, 0, 0, 0, 100⟩, ⟨0, 2, 0, 0, 0, 60⟩, ⟨0, 3, 0, 0, 2, 40⟩, ⟨0, 5, 0, 0, 0, 0⟩, ⟨0, 6, 1, 0, 0, 0⟩]
theorem setup_any (w : World) : Calls Tryz.prog 54 #[] w fun e w' => ∃ a c, e = .returned (suv (.slice a 1 c) 1 30) ∧ Gn.Lies kPa w' a c psA ∧ Below w.heap.size w w' := by
 go_enter Tryz.func54, Tryz.ntmps54
 go_wp2_with fail
 have e1 := below_alloc w (.cells #[.slice (some ⟨w.heap.size + 1, 0, none⟩) 1 1, .int .i64 1, .int .i64 30] 24)
 have e2 := below_alloc (w.alloc (.cells #[.slice (some ⟨w.heap.size + 1, 0, none⟩) 1 1, .int .i64 1, .int .i64 30] 24)) (.cells #[.int .i64 10, .int .i64 5, .int .i64 1000] 58)
 have hp : Gn.Lies kPa ((w.alloc (.cells #[.slice (some ⟨w.heap.size + 1, 0, none⟩) 1 1, .int .i64 1, .int .i64 30] 24)).alloc (.cells #[.int .i64 10, .int .i64 5, .int .i64 1000] 58)) (some ⟨w.heap.size + 1, 0, none⟩) 1 psA := lies_one (K := kPa) (x := ⟨10, 5, 1000⟩) (cs := #[.int .i64 10, .int .i64 5, .int .i64 1000]) (heap_alloc_at _ _ _ (by simp)) rfl _
 have hs : ((w.alloc (.cells #[.slice (some ⟨w.heap.size + 1, 0, none⟩) 1 1, .int .i64 1, .int .i64 30] 24)).alloc (.cells #[.int .i64 10, .int .i64 5, .int .i64 1000] 58)).heap[w.heap.size]? = some (suo (.slice (some ⟨w.heap.size + 1, 0, none⟩) 1 1) 1 30) := (e2.block _ (by simp)).trans (heap_alloc_at _ _ _ rfl)
 have hb := e1.trans (e2.mono (by simp))
 obtain ⟨s0, s1, s2⟩ := sul_cells hs
 generalize (w.alloc (.cells #[.slice (some ⟨w.heap.size + 1, 0, none⟩) 1 1, .int .i64 1, .int .i64 30] 24)).alloc (.cells #[.int .i64 10, .int .i64 5, .int .i64 1000] 58) = X at *
 exact bodyPost_ret (v := suv (.slice (some ⟨w.heap.size + 1, 0, none⟩) 1 1) 1 30) (by unfold suv; simp [results, Tryz.results54, go_sem, s0, s1, s2]; try rfl) rfl ⟨_, _, rfl, hp, hb⟩
theorem lies_blk {α : Type} {K : Kind α} {w : World} {b : Nat} {L : List α} {t : TypeId} {cs : Array Value} (h : w.heap[b]? = some (.cells cs t)) (hc : cs.toList = K.flat L) (hl : L.length ≤ maxLen) (c : Nat) : Gn.Lies K w (some ⟨b, 0, none⟩) c L := by
 refine ⟨hl, (fun h => by cases h), Or.inr ⟨b, 0, rfl, lt_of_block h, fun j u hj => ?_⟩⟩
 rw [← hc] at hj
 rw [Nat.zero_add, cell_of_row w b j cs t _ h]
 simpa using hj
theorem got_box (w : World) (zs : Array Value) (hz : zs.size = 19) (b : Bank) (v : Vs) (f : Int × Int) :
  ((w.alloc (.cells zs 43)).alloc (.cells #[.int .i64 0, .int .i64 0] 47)).there w.heap.size 0 (cellsK b v).size ∧
  (((w.alloc (.cells zs 43)).alloc (.cells #[.int .i64 0, .int .i64 0] 47)).setCells w.heap.size 0 (cellsK b v).toList).heap[w.heap.size + 1]? = some (fo (0, 0)) ∧
  (((((w.alloc (.cells zs 43)).alloc (.cells #[.int .i64 0, .int .i64 0] 47)).setCells w.heap.size 0 (cellsK b v).toList).setCell ⟨w.heap.size + 1, 0, none⟩ (.int .i64 f.1)).setCell ⟨w.heap.size + 1, 1, none⟩ (.int .i64 f.2)).heap[w.heap.size]? = some (bko b v) ∧
  (((((w.alloc (.cells zs 43)).alloc (.cells #[.int .i64 0, .int .i64 0] 47)).setCells w.heap.size 0 (cellsK b v).toList).setCell ⟨w.heap.size + 1, 0, none⟩ (.int .i64 f.1)).setCell ⟨w.heap.size + 1, 1, none⟩ (.int .i64 f.2)).heap[w.heap.size + 1]? = some (fo f) ∧
  Below w.heap.size w (((((w.alloc (.cells zs 43)).alloc (.cells #[.int .i64 0, .int .i64 0] 47)).setCells w.heap.size 0 (cellsK b v).toList).setCell ⟨w.heap.size + 1, 0, none⟩ (.int .i64 f.1)).setCell ⟨w.heap.size + 1, 1, none⟩ (.int .i64 f.2)) := by
 have e1 := below_alloc w (.cells zs 43)
 have e2 := below_alloc (w.alloc (.cells zs 43)) (.cells #[.int .i64 0, .int .i64 0] 47)
 have h0 : ((w.alloc (.cells zs 43)).alloc (.cells #[.int .i64 0, .int .i64 0] 47)).heap[w.heap.size]? = some (.cells zs 43) := (e2.block _ (by simp)).trans (heap_alloc_at _ _ _ rfl)
 have h1 : ((w.alloc (.cells zs 43)).alloc (.cells #[.int .i64 0, .int .i64 0] 47)).heap[w.heap.size + 1]? = some (fo (0, 0)) := heap_alloc_at _ _ _ (by simp)
 have hb := e1.trans (e2.mono (by simp))
 refine ⟨there_blk h0 (by rw [hz]; exact Nat.le_refl 19), ?_⟩
 rw [putAll_cells]
 have g0 : (putAll ((w.alloc (.cells zs 43)).alloc (.cells #[.int .i64 0, .int .i64 0] 47)) w.heap.size 0 (cellsK b v).toList).heap[w.heap.size]? = some (bko b v) := by
  have := putAll_same (cellsK b v).toList ((w.alloc (.cells zs 43)).alloc (.cells #[.int .i64 0, .int .i64 0] 47)) w.heap.size [] zs.toList [] 43 (by simp [hz]; rfl) (by rw [h0]; simp)
  refine Eq.trans this ?_
  unfold bko
  simp
 have g1 := (putAll_other ((w.alloc (.cells zs 43)).alloc (.cells #[.int .i64 0, .int .i64 0] 47)) w.heap.size 0 (w.heap.size + 1) (cellsK b v).toList (by omega)).trans h1
 have hbY := below_putAll hb w.heap.size 0 (cellsK b v).toList (Nat.le_refl _)
 generalize putAll ((w.alloc (.cells zs 43)).alloc (.cells #[.int .i64 0, .int .i64 0] 47)) w.heap.size 0 (cellsK b v).toList = Y at *
 exact ⟨g1, (heap_setCell_other _ _ _ _ (by simp)).trans ((heap_setCell_other _ _ _ _ (by simp)).trans g0), fo_put g1, (hbY.setCell (p := ⟨w.heap.size + 1, 0, none⟩) (by simp) _).setCell (p := ⟨w.heap.size + 1, 1, none⟩) (by simp) _⟩
theorem alive_plain : (playR psA 1 30 ddA).2.2 = (0, 0) ∧ (playR psA 1 30 ddA).2.1 = [(0, 0), (0, 0), (0, 0), (0, 0), (0, 0)] ∧ (playR psA 1 30 ddA).1.due = [40] ∧ (playR psA 1 30 ddA).1.cards.map (fun c => (c.m, c.h)) = [(60, 20)] := ⟨by kernel_rfl, by kernel_rfl, by kernel_rfl, by kernel_rfl⟩
theorem alive_facts {w w' : World} {v : Vs} {cs : List CV} {ds : List DV} {va : Value} (SH : Shows w (playR psA 1 30 ddA).1 v cs ds) (AP : Ap kAn (fun _ => 0) w va (playR psA 1 30 ddA).2.1 0) (hb : Below w.heap.size w w') :
  ∃ z1 o1 c1 z2 o2 c2 z3 o3 c3, va = .slice (some ⟨z1, o1, none⟩) 5 c1 ∧ w'.cell? ⟨z1, o1 + 8, none⟩ = some (.int .i64 0) ∧ v.d = .slice (some ⟨z2, o2, none⟩) 1 c2 ∧ w'.cell? ⟨z2, o2, none⟩ = some (.int .i64 40) ∧ v.c = .slice (some ⟨z3, o3, none⟩) 1 c3 ∧ w'.cell? ⟨z3, o3, none⟩ = some (.int .i64 60) ∧ w'.cell? ⟨z3, o3 + 1, none⟩ = some (.int .i64 20) := by
 obtain ⟨-, p2, p3, p4⟩ := alive_plain
 rw [p2] at AP
 have SH' := SH.below hb
 have hd := SH'.due
 have hc := SH'.cards
 have hcs := SH'.csv
 rw [p3] at hd
 have hcm : cs.map (fun x => (x.c.m, x.c.h)) = [(60, 20)] := by rw [← p4, ← hcs, List.map_map]; rfl
 obtain ⟨x, rfl⟩ : ∃ x, cs = [x] := by
  cases cs with
  | nil => simp at hcm
  | cons x r => cases r with
   | nil => exact ⟨x, rfl⟩
   | cons y r => simp at hcm
 simp at hcm
 obtain ⟨a1, c1, h1, l1⟩ := AP.lies
 obtain ⟨a2, c2, h2, l2⟩ := hd.lies
 obtain ⟨a3, c3, h3, l3⟩ := hc.lies
 obtain ⟨z1, o1, rfl, -, f1⟩ := (l1.below hb).elem (i := 4) (x := (0, 0)) rfl
 obtain ⟨z2, o2, rfl, -, f2⟩ := l2.elem (i := 0) (x := 40) rfl
 obtain ⟨z3, o3, rfl, -, f3⟩ := l3.elem (i := 0) (x := x) rfl
 refine ⟨z1, o1, c1, z2, o2, c2, z3, o3, c3, h1, f1 0 _ rfl, h2, by simpa using f2 0 _ rfl, h3, ?_, ?_⟩
 ·have := f3 0 _ rfl
  simpa [hcm.1] using this
 ·have := f3 1 _ rfl
  simpa [hcm.2] using this
theorem alive_any (w : World) (O : Oth w) : Calls Tryz.prog 23 #[] w fun e w' => e = .returned (.bool true) ∧ Below w.heap.size w w' := by
 have hS := setup_any w
 have hP := fun (W : World) (a : Option Addr) (c : Nat) (al : Option Addr) (h : Gn.Lies kPa W a c psA) (hd : Gn.Lies kDd W al 5 ddA) (hO : Oth W) => play_any psA a c 1 30 al 5 ddA W h hd (by intro d hd; simp [ddA] at hd; rcases hd with rfl | rfl | rfl | rfl | rfl <;> exact ⟨by decide, by decide⟩) hO
 have hF := fun (W W' : World) (v : Vs) (cs : List CV) (ds : List DV) (va : Value) (SH : Shows W (playR psA 1 30 ddA).1 v cs ds) (AP : Ap kAn (fun _ => 0) W va (playR psA 1 30 ddA).2.1 0) (hb : Below W.heap.size W W') => alive_facts SH AP hb
 have hf := alive_plain.1
 generalize playR psA 1 30 ddA = r at *
 have hl1 : psA.length = 1 := rfl
 have hl2 : ddA.length = 5 := rfl
 rw [hl1, hl2] at hP
 unfold suv at hS hP
 unfold Plays at hP
 rw [hf] at hP
 clear hf hl1 hl2
 obtain ⟨b, A, f⟩ := r
 dsimp only at hP hF
 simp only [bkv_cells] at hP
 unfold Dy.fv at hP
 go_enter Tryz.func23, Tryz.ntmps23
 go_upto_region 1 with fail
 go_upto_region 2 with fail
 refine hS.mono ?_
 rintro _ w1 ⟨a, c, rfl, hl, hb1⟩
 have e1 := below_alloc w1 (.cells #[.int .i64 0, .int .i64 1, .int .i64 0, .int .i64 0, .int .i64 0, .int .i64 100, .int .i64 0, .int .i64 2, .int .i64 0, .int .i64 0, .int .i64 0, .int .i64 60, .int .i64 0, .int .i64 3, .int .i64 0, .int .i64 0, .int .i64 2, .int .i64 40, .int .i64 0, .int .i64 5, .int .i64 0, .int .i64 0, .int .i64 0, .int .i64 0, .int .i64 0, .int .i64 6, .int .i64 1, .int .i64 0, .int .i64 0, .int .i64 0] 74)
 have hd1 : Gn.Lies kDd (w1.alloc (.cells #[.int .i64 0, .int .i64 1, .int .i64 0, .int .i64 0, .int .i64 0, .int .i64 100, .int .i64 0, .int .i64 2, .int .i64 0, .int .i64 0, .int .i64 0, .int .i64 60, .int .i64 0, .int .i64 3, .int .i64 0, .int .i64 0, .int .i64 2, .int .i64 40, .int .i64 0, .int .i64 5, .int .i64 0, .int .i64 0, .int .i64 0, .int .i64 0, .int .i64 0, .int .i64 6, .int .i64 1, .int .i64 0, .int .i64 0, .int .i64 0] 74)) (some ⟨w1.heap.size, 0, none⟩) 5 ddA := lies_blk (K := kDd) (L := ddA) (heap_alloc_at _ _ _ rfl) (by kernel_rfl) (by simp [ddA, maxLen]) _
 have hP1 := hP _ _ _ _ (hl.below e1) hd1 (O.keep ((e1.block 0 (Nat.lt_of_lt_of_le O.lt hb1.size)).trans (hb1.block 0 O.lt)))
 have hb2 : Below w.heap.size w (w1.alloc (.cells #[.int .i64 0, .int .i64 1, .int .i64 0, .int .i64 0, .int .i64 0, .int .i64 100, .int .i64 0, .int .i64 2, .int .i64 0, .int .i64 0, .int .i64 0, .int .i64 60, .int .i64 0, .int .i64 3, .int .i64 0, .int .i64 0, .int .i64 2, .int .i64 40, .int .i64 0, .int .i64 5, .int .i64 0, .int .i64 0, .int .i64 0, .int .i64 0, .int .i64 0, .int .i64 6, .int .i64 1, .int .i64 0, .int .i64 0, .int .i64 0] 74)) := hb1.trans (e1.mono hb1.size)
 clear hP hS hl hd1 e1
 go_upto_region 2 with (first
  | (go_at_call 18; refine hP1.mono ?_; rintro _ w2 ⟨v, cs, ds, va, rfl, SH, AP, hb3⟩; obtain ⟨G1, G2, G3, G4, G5⟩ := got_box w2 #[.int .i64 0, .bool false, .slice none 0 0, .slice none 0 0, .slice none 0 0, .int .i64 0, .slice none 0 0, .int .i64 0, .slice none 0 0, .int .i64 0, .int .i64 0, .slice none 0 0, .slice none 0 0, .int .i64 0, .slice none 0 0, .slice none 0 0, .slice none 0 0, .slice none 0 0, .slice none 0 0] rfl b v (0, 0); have hF1 := hF _ _ _ _ _ _ SH AP G5; replace G3 := bko_cells G3; obtain ⟨t0, t1, t2, t3⟩ := fo_cells G2; obtain ⟨y0, y1, y2, y3⟩ := fo_cells G4; have hone := hid SH.one; have hinf : Hid ((Tryz.prog.info? 43).map (·.size) = some (cellsK b v).size) := hid infoK; have hb4 : Below w.heap.size w _ := (hb2.trans (hb3.mono hb2.size)).trans (G5.mono ((hb2.trans (hb3.mono hb2.size)).size)); dsimp only at t0 t1 y0 y1 G3 hb4 hF1; clear G4 G5 SH AP G2 hP1 hF; generalize cellsK b v = cc at *)
  | (refine wpList_store_mid rfl 43 _ _ rfl w2.heap.size 0 cc rfl rfl G1 hinf.out hone.out ?_))
 generalize ((((w2.alloc (.cells #[.int .i64 0, .bool false, .slice none 0 0, .slice none 0 0, .slice none 0 0, .int .i64 0, .slice none 0 0, .int .i64 0, .slice none 0 0, .int .i64 0, .int .i64 0, .slice none 0 0, .slice none 0 0, .int .i64 0, .slice none 0 0, .slice none 0 0, .slice none 0 0, .slice none 0 0, .slice none 0 0] 43)).alloc (.cells #[.int .i64 0, .int .i64 0] 47)).setCells w2.heap.size 0 cc.toList).setCell ⟨w2.heap.size + 1, 0, none⟩ (.int .i64 0)).setCell ⟨w2.heap.size + 1, 1, none⟩ (.int .i64 0) = Z at *
 obtain ⟨-, -, c2, c3, -⟩ := G3
 obtain ⟨z1, o1, c1', z2, o2, c2', z3, o3, c3', rfl, f1, hvd, f2, hvc, f3, f4⟩ := hF1
 rw [hvd] at c3
 rw [hvc] at c2
 clear hvd hvc G1 t0 t1 t2 t3 hb3 hb2
 go_wp2_with fail
 exact bodyPost_ret (results_tmp Tryz.results23 _ _ _) rfl ⟨rfl, hb4⟩
open Go.RowKit Go.Proofs.YtofcnebekmjdoaaGreatDoor.Gn Go.Maps
theorem playR_ok {ps : List Pa} {shops cap : Int} {l : List Dd} (h : (playR ps shops cap l).2.2.1 = 0) : (setErr ps shops cap).1 = 0 ∧ l.length ≤ 150 ∧ playR ps shops cap l = ((playL (startB ps shops.toNat cap) l).1, (playL (startB ps shops.toNat cap) l).2.map (·.2), (0, 0)) := by
 unfold playR at h ⊢
 by_cases h1 : (setErr ps shops cap).1 ≠ 0
 ·rw [if_pos h1] at h; exact absurd h h1
 rw [if_neg h1] at h ⊢
 by_cases h2 : 150 < l.length
 ·rw [if_pos h2] at h; cases h
 rw [if_neg h2]
 exact ⟨by simpa using h1, by omega, rfl⟩
theorem playR_inv {ps : List Pa} {shops cap : Int} {l : List Dd} (h : (playR ps shops cap l).2.2.1 = 0) : Inv (startB ps shops.toNat cap) ∧ Inv (playR ps shops cap l).1 := by
 obtain ⟨h1, -, h3⟩ := playR_ok h
 obtain ⟨o1, o2, o3, o4, o5, o6⟩ := set_ok h1
 have I := start_inv (paces := ps) (shops := shops.toNat) (cap := cap) o1 (by omega) ⟨o4, o5⟩ o6
 rw [h3]
 exact ⟨I, play_inv I l⟩
open Go.RowKit Go.Proofs.YtofcnebekmjdoaaGreatDoor.Gn Go.Maps
structure Bw (w Y : World) (g : Nat) (b : Bank) (v : Vs) (cs : List CV) (ds : List DV) : Prop where
 box : Y.heap[g]? = some (bko b v)
 sh : Shows Y b v cs ds
 bel : Below w.heap.size w Y
open Go.RowKit Go.Proofs.YtofcnebekmjdoaaGreatDoor.Gn Go.Maps
theorem zeroBo (w : World) : (zeroValue 4).run Tryz.prog w = .ok (.bool false) w := by kernel_rfl
def rBo (v : Value) : Option (DataW Unit × List MemPlace) :=
 match v with
 | .bool b => some (.lit (.bool b), [])
 | _ => none
theorem rBo_inv {v : Value} {b : Bool} {ps : List MemPlace} (h : rBo v = some (.lit (.bool b), ps)) : v = .bool b := by
 unfold rBo at h
 split at h
 ·simp at h; rw [h.1]
 ·cases h
abbrev OwnsH (w : World) (m n : Nat) (D : DataW Unit) : Prop := w.ownsMap Tryz.prog 3 rBo m n D
structure Hs (L : List Int) (D : DataW Unit) : Prop where
 is : IsMap D
 at' : ∀ id : Int, D.atKey (.int .i64 id) (.lit (.bool false)) = .lit (.bool (decide (id ∈ L)))
theorem hs_nil : Hs [] (.map []) := ⟨isMap_empty, fun _ => rfl⟩
theorem Hs.put {L : List Int} {D : DataW Unit} (h : Hs L D) (id : Int) : Hs (L ++ [id]) (D.put (.int .i64 id) (.lit (.bool true))) := by
 refine ⟨h.is.put _ _, fun i => ?_⟩
 by_cases e : i = id
 ·subst e
  rw [atKey_put_same h.is (key_lit _)]; simp
 ·have ne : (Lit.int .i64 i) ≠ .int .i64 id := fun q => by injection q with _ q; exact e q
  rw [atKey_put_other ne, h.at' i]
  simp [e]
theorem Hs.same {L M : List Int} {D : DataW Unit} (h : Hs L D) (hm : ∀ i, i ∈ M ↔ i ∈ L) : Hs M D := ⟨h.is, fun i => by rw [h.at' i]; simp [hm i]⟩
theorem had_look {X : World} {m n : Nat} {D : DataW Unit} {L : List Int} (O : OwnsH X m n D) (t : Hs L D) {id : Int} (h1 : -9223372036854775808 ≤ id) (h2 : id ≤ 9223372036854775807) :
  (Instr.lookup 77 (.map (some m)) (.int .i64 id) false).run Tryz.prog X = .ok (.bool (decide (id ∈ L))) X := by
 obtain ⟨v, ps, hrun, hv⟩ := O.lookup (t := 77) lawI Tryz.underlying77 (zeroBo X) (show rBo (.bool false) = some (.lit (.bool false), []) from rfl) (keyOf_int_mk Tryz.underlying3 (WalkArith.wf_i64 (n := id) ⟨h1, h2⟩))
 rw [t.at' id] at hv
 rw [hrun, rBo_inv hv]
theorem had_put {X : World} {m n : Nat} {D : DataW Unit} (O : OwnsH X m n D) (hn : n ≤ 1000000) {id : Int} (h1 : -9223372036854775808 ≤ id) (h2 : id ≤ 9223372036854775807) :
  ∃ w', (Instr.mapUpdate 77 (.map (some m)) (.int .i64 id) (.bool true)).run Tryz.prog X = .ok () w' ∧ OwnsH w' m (n + 1) (D.put (.int .i64 id) (.lit (.bool true))) ∧ X.grownBy w' (some m) ∧ w'.heap.size = X.heap.size := by
 obtain ⟨w', r1, r2, r3⟩ := O.store (t := 77) lawI Tryz.underlying77 (by unfold maxLen; omega) (keyOf_int_mk Tryz.underlying3 (WalkArith.wf_i64 (n := id) ⟨h1, h2⟩)) (show rBo (.bool true) = some (.lit (.bool true), []) from rfl)
 refine ⟨w', r1, r2, r3.grown, ?_⟩
 obtain ⟨es, clock, es', clock', -, rfl⟩ := r3
 simp [Go.ChangeMaps.setBlock]
end Go.Proofs.YtofcnebekmjdoaaGreatDoor.Bn
