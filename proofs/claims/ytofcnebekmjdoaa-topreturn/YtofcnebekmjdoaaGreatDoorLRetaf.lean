import Derived.Test.YtofcnebekmjdoaaGreatDoorLRetae
set_option maxHeartbeats 4000000
set_option maxRecDepth 100000
namespace Go.Proofs.YtofcnebekmjdoaaGreatDoor.Bn
open Go.Proofs.YtofcnebekmjdoaaGreatDoor
def partsL (left each : Int) : Nat → List Int
 | 0 => []
 | 1 => [left]
 | n + 2 => each :: partsL (left - each) each (n + 1)
def refL (l : List Int) : List Dd := l.map fun n => dMove 5 0 n
theorem got_back {has paid each : Int} (hh : has ≤ 100000) (h0 : 1 ≤ each) (hp : paid ≤ has) (j : Nat) : ∀ (m K M : Nat) (left : Int) (b : Bank), m = j + 1 → Got b K M 0 0 0 has ⟨0, 0, paid, paid, paid - left, 0, 100, true⟩ → K + m ≤ 90 → M + m ≤ 20 → each * m ≤ left → left ≤ paid →
  Got (run b (refL (partsL left each m))) (K + m) (M + m) 0 0 0 has ⟨0, 0, paid, paid, paid, 0, 100, true⟩ := by
 induction j with
 | zero =>
  intro m K M left b hm G hK hM hl hlp
  subst hm
  have hl' : each ≤ left := by simpa using hl
  have G3 := (G.step (mv := 5) (n := left) (by omega) (by omega) (mv_ok G.right (by decide) (by decide) (by omega) (by omega) (by simp) (by simp [Au.room]; omega)) (by decide)).2
  have ea : Au.step ⟨0, 0, paid, paid, paid - left, 0, 100, true⟩ 5 left = ⟨0, 0, paid, paid, paid, 0, 100, true⟩ := by simp [Au.step]
  rw [ea] at G3
  exact G3
 | succ j ih =>
  intro m K M left b hm G hK hM hl hlp
  subst hm
  have hmul : each * ((j + 1 + 1 : Nat) : Int) = each * ((j + 1 : Nat) : Int) + each := by rw [Int.natCast_succ (j + 1), Int.mul_add, Int.mul_one]
  have hpos : each * ((j + 1 : Nat) : Int) ≥ each := by
   have : each * ((j + 1 : Nat) : Int) = each * (j : Int) + each := by rw [Int.natCast_succ j, Int.mul_add, Int.mul_one]
   have h2 : 0 ≤ each * (j : Int) := Int.mul_nonneg (by omega) (by omega)
   omega
  have G3 := (G.step (mv := 5) (n := each) (by omega) (by omega) (mv_ok G.right (by decide) (by decide) h0 (by omega) (by simp) (by simp [Au.room]; omega)) (by decide)).2
  have ea : Au.step ⟨0, 0, paid, paid, paid - left, 0, 100, true⟩ 5 each = ⟨0, 0, paid, paid, paid - (left - each), 0, 100, true⟩ := by simp [Au.step]; omega
  rw [ea, show sends 5 = 1 from rfl] at G3
  have := ih (j + 1) (K + 1) (M + 1) (left - each) _ rfl G3 (by omega) (by omega) (by omega) (by omega)
  rw [show K + 1 + (j + 1) = K + (j + 1 + 1) by omega, show M + 1 + (j + 1) = M + (j + 1 + 1) by omega] at this
  exact this
theorem two_entries {l : List (Int × Int)} (R : Bk.Right l) {x y : Int} (hxy : x < y) (hx : Bk.getE l x ≠ 0) (hy : Bk.getE l y ≠ 0) (hn : ∀ acc, acc ≠ x → acc ≠ y → Bk.getE l acc = 0) : l.length = 2 := by
 have key : ∀ L : List (Int × Int), L.Pairwise (fun a b => a.1 < b.1) → ∀ e ∈ L, Bk.getE L e.1 = e.2 := by
  intro L
  induction L with
  | nil => intro _ e he; cases he
  | cons a r ih =>
   intro hp e he
   obtain ⟨h1, h2⟩ := List.pairwise_cons.1 hp
   rcases List.mem_cons.1 he with rfl | he
   ·simp [Bk.getE]
   ·have := h1 e he
    simp only [Bk.getE]
    rw [if_neg (by omega)]
    exact ih h2 e he
 have hin : ∀ e ∈ l, e.1 = x ∨ e.1 = y := fun e he => by
  by_cases h1 : e.1 = x
  ·exact Or.inl h1
  by_cases h2 : e.1 = y
  ·exact Or.inr h2
  have := key l R.rise e he
  rw [hn _ h1 h2] at this
  exact absurd this.symm (R.all e he).2
 match l, R, hx, hy, hin with
 | [], _, hx, _, _ => exact absurd rfl hx
 | [a], _, hx, hy, hin =>
  exfalso
  rcases hin a (by simp) with h | h
  ·apply hy; simp only [Bk.getE]; rw [if_neg (by omega)]
  ·apply hx; simp only [Bk.getE]; rw [if_neg (by omega)]
 | [_, _], _, _, _, _ => rfl
 | a :: b :: c :: r, R, _, _, hin =>
  exfalso
  have h := R.rise
  simp only [List.pairwise_cons, List.mem_cons] at h
  have ab := h.1 b (Or.inl rfl)
  have ac := h.1 c (Or.inr (Or.inl rfl))
  have bc := h.2.1 c (Or.inl rfl)
  have ha := hin a (by simp)
  have hb := hin b (by simp)
  have hc := hin c (by simp)
  omega
theorem run_zero (ds : List Dd) : ∀ b : Bank, Inv b → Zero b → Zero (run b ds) := by
 induction ds with
 | nil => exact fun b _ Z => Z
 | cons d r ih => intro b I Z; rw [run_cons]; exact ih _ (do_inv I) (do_zero I Z)
theorem start_zero (ps : List Pa) (n : Nat) (cap : Int) : Zero (startB ps n cap) := fun _ _ => rfl
theorem return_plain {has paid : Int} {parts : Nat} (h1 : 1 ≤ parts) (h2 : parts ≤ 4) (h3 : (parts : Int) ≤ paid) (h4 : paid ≤ has) (h5 : has ≤ 100000) :
  ∀ x, x = run (topS 0) (paidL has paid ++ refL (partsL paid (paid / parts) parts) ++ comeL 5) → (x.cards.getD 0 zeroC).m = has ∧ (x.cards.getD 0 zeroC).h = 0 ∧ x.due.getD 0 0 = 0 ∧ x.book.length = 2 := by
 intro x hx
 have G4 := got_paid (has := has) (paid := paid) (by omega) h4 h5
 have hZ : Zero x := by rw [hx]; exact run_zero _ _ (top_inv (by decide)) (start_zero _ _ _)
 rw [run_append, run_append] at hx
 generalize run (topS 0) (paidL has paid) = b4 at *
 have hdiv : 1 ≤ paid / (parts : Int) := (Int.le_ediv_iff_mul_le (by omega)).2 (by omega)
 have hmul : paid / (parts : Int) * (parts : Int) ≤ paid := Int.ediv_mul_le _ (by omega)
 have G5 := got_back (each := paid / (parts : Int)) h5 hdiv h4 (parts - 1) parts 27 0 paid b4 (by omega) (by rw [Int.sub_self]; exact G4) (by omega) (by omega) hmul (by omega)
 generalize run b4 (refL (partsL paid (paid / (parts : Int)) parts)) = b5 at *
 have G6 := G5.come (by omega) (by omega)
 rw [← hx] at G6
 obtain ⟨m, hh, du, t1, t2⟩ := G6.now
 dsimp only at m du t2
 have hh' : (x.cards.getD (0 : Int).toNat zeroC).h = 0 := by rw [hh]; rfl
 have m' : (x.cards.getD (0 : Int).toNat zeroC).m = has := by omega
 have du' : x.due.getD (0 : Int).toNat 0 = 0 := by omega
 refine ⟨m', hh', du', ?_⟩
 have o := G6.out
 have a10 := G6.inv.books.accC 0 (by rw [G6.cards]; decide)
 have a10' : Bk.getE x.book 10 = has := by rw [show (10 : Int) = 10 + ((0 : Nat) : Int) from rfl, a10]; exact m'
 have a50 := G6.inv.books.accS 0 (by rw [G6.due]; decide)
 have a50' : Bk.getE x.book 50 = 0 := by rw [show (50 : Int) = 50 + ((0 : Nat) : Int) from rfl, a50]; exact du'
 have R := Bk.wrong_ok.1 G6.inv.books.right
 have hk6 : ∀ i, (x.snd i).kept = [] := fun i => List.eq_nil_of_length_eq_zero (by have := G6.kept i; omega)
 have other_card : (x.cards.getD 1 zeroC).m = 0 := by
  have h := G6.ob 1 (by decide) (by decide)
  unfold cbal at h
  rw [hk6, G6.auths, sumOn_one] at h
  have e : spentBy 1 ⟨0, 0, paid, paid, paid, 0, 100, true⟩ = 0 := by unfold spentBy; rw [if_neg (by show ¬ ((0 : Int) = ((1 : Nat) : Int)); decide)]
  rw [e] at h
  simp only [sumOn] at h
  omega
 have other_shop : x.due.getD 1 0 = 0 := by
  rw [due_end 1 (hk6 false), G6.db, G6.auths, sumOn_one]
  unfold captBy
  rw [if_neg (by show ¬ ((0 : Int) = ((1 : Nat) : Int)); decide)]; rfl
 have c1 : ∀ acc, acc ≠ 0 → acc ≠ 10 → Bk.getE x.book acc = 0 := by
  intro acc q1 q2
  by_cases q3 : acc = 1
  ·subst q3; exact t1
  by_cases q4 : acc = 2
  ·subst q4; rw [t2]; rfl
  by_cases q5 : acc = 50
  ·subst q5; exact a50'
  by_cases q6 : acc = 11
  ·subst q6
   have := G6.inv.books.accC 1 (by rw [G6.cards]; decide)
   rw [show (11 : Int) = 10 + ((1 : Nat) : Int) from rfl, this]
   exact other_card
  by_cases q7 : acc = 51
  ·subst q7
   have := G6.inv.books.accS 1 (by rw [G6.due]; decide)
   rw [show (51 : Int) = 50 + ((1 : Nat) : Int) from rfl, this]
   exact other_shop
  exact hZ acc (by unfold Named; rw [G6.cards, G6.due]; omega)
 exact two_entries R (by decide : (0 : Int) < 10) (by rw [o]; omega) (by rw [a10']; omega) c1
def ansL (b : Bank) : List Dd → List An
 | [] => []
 | d :: r => (doB b d).2 :: ansL (doB b d).1 r
theorem fold_ans (ds : List Dd) : ∀ s : Bank × List (Dd × An), (∀ d ∈ ds, d.id = 0) → (ds.foldl play1 s).2.map (·.2) = s.2.map (·.2) ++ ansL s.1 ds := by
 induction ds with
 | nil => intro s _; simp [ansL]
 | cons d r ih =>
  intro s h
  have h0 : d.id = 0 := h d List.mem_cons_self
  have e : play1 s d = ((doB s.1 d).1, s.2 ++ [(d, ((doB s.1 d).2.1, (doB s.1 d).2.2))]) := by
   unfold play1
   rw [if_pos h0]
  rw [List.foldl_cons, ih _ (fun x hx => h x (List.mem_cons_of_mem _ hx)), e]
  simp [ansL]
theorem play_ans (b : Bank) (ds : List Dd) (h : ∀ d ∈ ds, d.id = 0) : (playL b ds).2.map (·.2) = ansL b ds := by
 have := fold_ans ds (b, []) h
 simpa [playL] using this
open Go.RowKit Go.Proofs.YtofcnebekmjdoaaGreatDoor.Gn Go.Maps
theorem playR_top {cap : Int} (hc : 0 ≤ cap ∧ cap ≤ 1000000) {l : List Dd} (h0 : ∀ d ∈ l, d.id = 0) (hl : l.length ≤ 150) : playR psT 2 cap l = (run (topS cap) l, ansL (topS cap) l, (0, 0)) := by
 have hE : setErr psT 2 cap = (0, 0) := by
  unfold setErr
  rw [if_neg (by decide), if_neg (by omega)]
  kernel_rfl
 unfold playR
 rw [hE, if_neg (by simp), if_neg (by omega), ← play_run0 _ _ h0, ← play_ans _ _ h0]
 rfl
theorem run_lens {b : Bank} (I : Inv b) (l : List Dd) : (run b l).cards.length = b.cards.length ∧ (run b l).due.length = b.due.length := by
 induction l generalizing b with
 | nil => exact ⟨rfl, rfl⟩
 | cons d r ih =>
  rw [run_cons]
  have A := do_accts (d := d) I
  have I' : Inv (doB b d).1 := run_inv I [d]
  exact ⟨(ih I').1.trans A.cards, (ih I').2.trans A.due⟩
theorem card_at {W : World} {b : Bank} {v : Vs} {cs : List CV} {ds : List DV} (SH : Shows W b v cs ds) {n k : Nat} (hn : b.cards.length = n) (hk : k < n) :
  ∃ (z o c : Nat) (x : CV), x.c = b.cards.getD k zeroC ∧ v.c = .slice (some ⟨z, o, none⟩) n c ∧ (∀ j u, (kC.cells x)[j]? = some u → W.cell? ⟨z, o + k * 6 + j, none⟩ = some u) := by
 have hcs := SH.csv
 have hlen : cs.length = n := by rw [← hn, ← hcs, List.length_map]
 obtain ⟨a, c, h1, l1⟩ := SH.cards.lies
 obtain ⟨z, o, rfl, -, hf⟩ := l1.elem (i := k) (x := cs.getD k zCV) (by simp [List.getD, show k < cs.length by omega])
 refine ⟨z, o, c, cs.getD k zCV, ?_, by rw [h1, hlen], hf⟩
 rw [← hcs]
 simp [List.getD, show k < cs.length by omega]
theorem due_at {W : World} {b : Bank} {v : Vs} {cs : List CV} {ds : List DV} (SH : Shows W b v cs ds) {n k : Nat} (hn : b.due.length = n) (hk : k < n) :
  ∃ (z o c : Nat), v.d = .slice (some ⟨z, o, none⟩) n c ∧ W.cell? ⟨z, o + k, none⟩ = some (.int .i64 (b.due.getD k 0)) := by
 obtain ⟨a, c, h1, l1⟩ := SH.due.lies
 obtain ⟨z, o, rfl, -, hf⟩ := l1.elem (i := k) (x := b.due.getD k 0) (by simp [List.getD, show k < b.due.length by omega])
 have := hf 0 _ rfl
 dsimp only [kI] at this
 exact ⟨z, o, c, by rw [h1, hn], by simpa using this⟩
theorem small_two {x y : Int} (h : smallB [x, y] = true) : 1 ≤ x ∧ x ≤ 100000 ∧ 1 ≤ y ∧ y ≤ 100000 := by
 unfold smallB at h
 simp at h
 omega
open Go.RowKit Go.Proofs.YtofcnebekmjdoaaGreatDoor.Gn Go.Maps
def ret3 (has paid : Int) : List Dd := [⟨0, 1, 0, 0, 0, has⟩, ⟨0, 2, 0, 0, 0, paid⟩, ⟨0, 3, 0, 0, 2, paid⟩]
theorem ret_pre (has paid : Int) : ret3 has paid ++ comeL 5 = paidL has paid := by
 unfold paidL ret3
 simp [dLoad, dAsk, dMove]
theorem ref_snoc (D : List Int) (n : Int) : refL D ++ [⟨0, 3, 0, 0, 5, n⟩] = refL (D ++ [n]) := by simp [refL, dMove]
structure Rt (paid each : Int) (parts i : Nat) (D : List Int) (lf : Int) : Prop where
 all : D ++ partsL lf each (parts - i) = partsL paid each parts
 len : D.length = i
 lo : each * ((parts - i : Nat) : Int) ≤ lf
 hi : lf ≤ paid
theorem Rt.mid {paid each : Int} {parts i : Nat} {D : List Int} {lf : Int} (h : Rt paid each parts i D lf) (h0 : 0 ≤ each) (hi : i + 1 < parts) : Rt paid each parts (i + 1) (D ++ [each]) (lf - each) := by
 obtain ⟨m, hm⟩ : ∃ m, parts - i = m + 2 := ⟨parts - i - 2, by omega⟩
 have e1 : parts - (i + 1) = m + 1 := by omega
 refine ⟨?_, by simp [h.len], ?_, ?_⟩
 ·rw [e1, ← h.all, hm, partsL]; simp
 ·have := h.lo
  rw [hm] at this
  rw [e1]
  push_cast at this ⊢
  have e : each * ((m : Int) + 1 + 1) = each * ((m : Int) + 1) + each := by rw [Int.mul_add each ((m : Int) + 1) 1, Int.mul_one]
  omega
 ·have := h.hi; omega
theorem Rt.last {paid each : Int} {parts i : Nat} {D : List Int} {lf : Int} (h : Rt paid each parts i D lf) (hi : i + 1 = parts) (h0 : 0 ≤ paid) : Rt paid each parts (i + 1) (D ++ [lf]) (lf - lf) := by
 have e1 : parts - i = 1 := by omega
 have e2 : parts - (i + 1) = 0 := by omega
 refine ⟨?_, by simp [h.len], ?_, by omega⟩
 ·rw [e2, ← h.all, e1, partsL, partsL]; simp
 ·rw [e2]; simp
theorem partsL_len (paid each : Int) : ∀ n, (partsL paid each n).length = n := by
 intro n
 induction n generalizing paid with
 | zero => rfl
 | succ n ih =>
  cases n with
  | zero => rfl
  | succ n => rw [partsL, List.length_cons, ih]
def retL (has paid : Int) (parts : Nat) : List Dd := paidL has paid ++ refL (partsL paid (paid / parts) parts) ++ comeL 5
theorem ret_ids (has paid : Int) (parts : Nat) : ∀ d ∈ retL has paid parts, d.id = 0 := by
 intro d hd
 unfold retL at hd
 rw [← ret_pre] at hd
 rcases List.mem_append.1 hd with h | h
 ·rcases List.mem_append.1 h with h | h
  ·rcases List.mem_append.1 h with h | h
   ·simp [ret3] at h; rcases h with rfl | rfl | rfl <;> rfl
   ·exact come0 d h
  ·unfold refL at h; obtain ⟨n, -, rfl⟩ := List.mem_map.1 h; rfl
 ·exact come0 d h
theorem ret_len (has paid : Int) (parts : Nat) : (retL has paid parts).length = 51 + parts := by
 unfold retL
 rw [← ret_pre, List.length_append, List.length_append, List.length_append, come_len, refL, List.length_map, partsL_len]
 show 3 + 24 + parts + 24 = _
 omega
theorem ret_facts {has paid : Int} {parts : Nat} (h1 : 1 ≤ parts) (h2 : parts ≤ 4) (h3 : (parts : Int) ≤ paid) (h4 : paid ≤ has) (h5 : has ≤ 100000) {W W' : World} {v : Vs} {cs : List CV} {ds : List DV} (SH : Shows W (run (topS 0) (retL has paid parts)) v cs ds) (hb : Below W.heap.size W W') :
  ∃ (z2 o2 c2 z3 o3 c3 : Nat) (x : CV) (a4 : Option Addr) (c4 : Nat), v.c = .slice (some ⟨z3, o3, none⟩) 2 c3 ∧ (∀ j u, (kC.cells x)[j]? = some u → W'.cell? ⟨z3, o3 + j, none⟩ = some u) ∧ x.c.m = has ∧ x.c.h = 0 ∧ v.d = .slice (some ⟨z2, o2, none⟩) 2 c2 ∧ W'.cell? ⟨z2, o2, none⟩ = some (.int .i64 0) ∧ v.bk = .slice a4 2 c4 := by
 obtain ⟨p1, p2, p3, p4⟩ := return_plain h1 h2 h3 h4 h5 _ rfl
 have I : Inv (topS 0) := top_inv (by decide)
 have hlen := run_lens I (retL has paid parts)
 have S2 := SH.below hb
 obtain ⟨z3, o3, c3, x, hx, hv, f3⟩ := card_at S2 (n := 2) (k := 0) (hlen.1.trans rfl) (by decide)
 obtain ⟨z2, o2, c2, hd, f2⟩ := due_at S2 (n := 2) (k := 0) (hlen.2.trans rfl) (by decide)
 obtain ⟨a4, c4, hk, l4⟩ := S2.book.lies
 unfold retL at hx f2 hk
 rw [p3] at f2
 rw [p4] at hk
 exact ⟨z2, o2, c2, z3, o3, c3, x, a4, c4, hv, fun j u hj => by simpa using f3 j u hj, by rw [hx]; exact p1, by rw [hx]; exact p2, hd, by simpa using f2, hk⟩
theorem ret_any (has paid parts : Int) (w : World) (_ : -9223372036854775808 ≤ has ∧ has ≤ 9223372036854775807) (_ : -9223372036854775808 ≤ paid ∧ paid ≤ 9223372036854775807) (_ : -9223372036854775808 ≤ parts ∧ parts ≤ 9223372036854775807) (O : Oth w) :
  Calls Tryz.prog 12 #[.int .i64 has, .int .i64 paid, .int .i64 parts] w fun e w' => e = .returned (.bool true) ∧ Below w.heap.size w w' := by
 have hA := talive_any w O
 have hS := fun (X : World) => tsetup_any 0 X
 have hD := fun (k n s : Int) (X : World) => tdo_any k n s X
 have hM := fun (k n s : Int) (X : World) => tmove_any k n s X
 unfold ddv at hD hM
 go_enter Tryz.func12, Tryz.ntmps12
 go_upto_region 1 with fail
 go_upto_region 2 with fail
 refine hA.mono ?_
 rintro _ w1 ⟨rfl, hb1⟩
 clear hA
 have e2 := below_alloc w1 (.cells #[.int .i64 has, .int .i64 paid] 3)
 have hl2 : Gn.Lies kI (w1.alloc (.cells #[.int .i64 has, .int .i64 paid] 3)) (some ⟨w1.heap.size, 0, none⟩) 2 [has, paid] := lies_blk (K := kI) (L := [has, paid]) (heap_alloc_at _ _ _ rfl) rfl (by simp [maxLen]) _
 have hSm := small_any _ _ _ _ hl2
 have hb2 := hb1.trans (e2.mono hb1.size)
 have hl2' : [has, paid].length = 2 := rfl
 rw [hl2'] at hSm
 have hsm := @small_two has paid
 generalize smallB [has, paid] = sm at *
 clear e2 hl2 hl2'
 go_upto_region 3 with fail
 go_upto_region 4 with fail
 refine hSm.mono ?_
 rintro _ w3 ⟨rfl, hb3⟩
 have hbw : Below w.heap.size w w3 := hb2.trans (hb3.mono hb2.size)
 clear hSm hb1 hb2 hb3
 cases sm with
 | false =>
  clear hS hD hM
  go_wp2_with fail
  exact bodyPost_ret (results_tmp Tryz.results12 _ _ _) rfl ⟨rfl, hbw⟩
 | true =>
  have hsm' := hsm rfl
  clear hsm
  by_cases c2 : has < paid
  ·clear hS hD hM
   go_wp2_with fail
   exact bodyPost_ret (results_tmp Tryz.results12 _ _ _) rfl ⟨rfl, hbw⟩
  by_cases c3 : parts < 1
  ·clear hS hD hM
   go_wp2_with fail
   exact bodyPost_ret (results_tmp Tryz.results12 _ _ _) rfl ⟨rfl, hbw⟩
  by_cases c4 : 4 < parts
  ·clear hS hD hM
   go_wp2_with fail
   exact bodyPost_ret (results_tmp Tryz.results12 _ _ _) rfl ⟨rfl, hbw⟩
  by_cases c5 : paid < parts
  ·clear hS hD hM
   go_wp2_with fail
   exact bodyPost_ret (results_tmp Tryz.results12 _ _ _) rfl ⟨rfl, hbw⟩
  obtain ⟨m, rfl⟩ : ∃ m : Nat, parts = m := ⟨parts.toNat, by omega⟩
  have hC := fun (X : World) (v : Value) (base : Nat) (l : List Dd) (h1 : Row kDd 74 X base v l) (h2 : base ≤ X.heap.size) (h3 : l.length ≤ 100) => come_any v l base X h1 h2 h3
  have hP := fun (W : World) (a : Option Addr) (c : Nat) (al : Option Addr) (cl : Nat) (h : Gn.Lies kPa W a c psT) (hd : Gn.Lies kDd W al cl (retL has paid m)) (hO : Oth W) => play_any psT a c 2 0 al cl (retL has paid m) W h hd (fit0 (ret_ids has paid m)) hO
  have hF := fun (W W' : World) (v : Vs) (cs : List CV) (ds : List DV) SH hb => ret_facts (has := has) (paid := paid) (parts := m) (W := W) (W' := W') (v := v) (cs := cs) (ds := ds) (by omega) (by omega) (by omega) (by omega) hsm'.2.1 SH hb
  rw [playR_top (by decide) (ret_ids has paid m) (by rw [ret_len]; omega), show psT.length = 2 from rfl, ret_len] at hP
  unfold Plays at hP
  dsimp only at hP
  generalize run (topS 0) (retL has paid m) = b at *
  generalize ansL (topS 0) (retL has paid m) = A at *
  simp only [bkv_cells] at hP
  unfold suv at hS hP
  unfold Dy.fv at hP
  go_upto_region 5 with fail
  go_upto_region 6 with fail
  refine (hD _ _ _ _).mono ?_
  rintro _ w4 ⟨rfl, hb4⟩
  go_upto_region 6 with fail
  refine (hD _ _ _ _).mono ?_
  rintro _ w4' ⟨rfl, hb4'⟩
  go_upto_region 6 with fail
  refine (hM _ _ _ _).mono ?_
  rintro _ w5 ⟨rfl, hb5⟩
  have hb35 := (hb4.trans (hb4'.mono hb4.size)).trans (hb5.mono (Nat.le_trans hb4.size hb4'.size))
  have e6 := below_alloc w5 (.cells #[.int .i64 0, .int .i64 1, .int .i64 0, .int .i64 0, .int .i64 0, .int .i64 has, .int .i64 0, .int .i64 2, .int .i64 0, .int .i64 0, .int .i64 0, .int .i64 paid, .int .i64 0, .int .i64 3, .int .i64 0, .int .i64 0, .int .i64 2, .int .i64 paid] 74)
  have hd6 : Gn.Lies kDd (w5.alloc (.cells #[.int .i64 0, .int .i64 1, .int .i64 0, .int .i64 0, .int .i64 0, .int .i64 has, .int .i64 0, .int .i64 2, .int .i64 0, .int .i64 0, .int .i64 0, .int .i64 paid, .int .i64 0, .int .i64 3, .int .i64 0, .int .i64 0, .int .i64 2, .int .i64 paid] 74)) (some ⟨w5.heap.size, 0, none⟩) 3 (ret3 has paid) := lies_blk (K := kDd) (L := ret3 has paid) (heap_alloc_at _ _ _ rfl) rfl (by simp [ret3, maxLen]) _
  have hR6 : Row kDd 74 (w5.alloc (.cells #[.int .i64 0, .int .i64 1, .int .i64 0, .int .i64 0, .int .i64 0, .int .i64 has, .int .i64 0, .int .i64 2, .int .i64 0, .int .i64 0, .int .i64 0, .int .i64 paid, .int .i64 0, .int .i64 3, .int .i64 0, .int .i64 0, .int .i64 2, .int .i64 paid] 74)) w5.heap.size (.slice (some ⟨w5.heap.size, 0, none⟩) 3 3) (ret3 has paid) := Row.full (L := ret3 has paid) w5.heap.size (Nat.le_refl _) hd6 (by simp)
  have hC6 := hC _ _ _ _ hR6 (by simp) (by simp [ret3])
  have hbw5 := hbw.trans (hb35.mono hbw.size)
  clear hR6 hd6 hb4 hb4' hb5 hb35 hbw
  go_upto_region 6 with fail
  refine hC6.mono ?_
  rintro _ w7 ⟨v7, rfl, C7⟩
  rw [ret_pre] at C7
  have C7' : Cg w7 w7 v7 w5.heap.size v7 (paidL has paid ++ refL []) := cg_start (by simpa [refL] using C7.row) C7.size
  have hbw7 : Below w.heap.size w w7 := hbw5.trans ((e6.trans C7.bel).mono hbw5.size)
  have hw5 := hbw5.size
  have hR0 : Rt paid (paid / m) m 0 [] paid := ⟨by simp, rfl, by simpa using Int.mul_ediv_self_le (x := paid) (k := (m : Int)) (by omega) |> fun h => by rw [Int.mul_comm]; exact h, Int.le_refl _⟩
  have hpl : (paidL has paid).length = 27 := by rw [← ret_pre, List.length_append, come_len]; rfl
  clear hC6 e6 C7
  go_upto_region 8 with fail
  have hq : Hid (Int.tdiv paid m = paid / m) := hid (Int.tdiv_eq_ediv_of_nonneg (by omega))
  have hq0 : 0 ≤ paid / (m : Int) := Int.ediv_nonneg (by omega) (by omega)
  have hq1 : paid / (m : Int) ≤ paid := Int.ediv_le_self _ (by omega)
  go_loopw [49, 7, 8] (fun x vo lo wr => ∃ (i : Nat) (D : List Int) (lf : Int), i ≤ m ∧ x = .int .i64 i ∧ lo = .int .i64 lf ∧ Rt paid (paid / m) m i D lf ∧ Cg w7 wr v7 w5.heap.size vo (paidL has paid ++ refL D)) (fun x _ _ _ => m - (intOf x).toNat)
  case atStart => exact ⟨0, [], paid, by omega, rfl, rfl, hR0, C7'⟩
  case round =>
   clear hR0 C7'
   obtain ⟨i, D, lf, hi, rfl, rfl, R, C⟩ := hrel
   have hDl : (refL D).length = i := by unfold refL; rw [List.length_map]; exact R.len
   have hlf : 0 ≤ lf ∧ lf ≤ paid := ⟨Int.le_trans (Int.mul_nonneg hq0 (by omega)) R.lo, R.hi⟩
   by_cases hlt : i < m
   ·have hlt' : (i : Int) < m := by omega
    by_cases hla : i + 1 = m
    ·have hla' : (i : Int) = m - 1 := by omega
     have R2 := hid (R.last hla (by omega))
     have hm0 : ¬ ((m : Int) = 0) := by omega
     go_upto_region 11 with fail
     go_upto_region 13 with fail
     go_wp2_with fail
     refine (hM _ _ _ _).mono ?_
     rintro _ w9 ⟨rfl, hb9⟩
     have e10 := below_alloc w9 (.cells #[.int .i64 0, .int .i64 3, .int .i64 0, .int .i64 0, .int .i64 5, .int .i64 (lf)] 74)
     have hone : Gn.Lies kDd (w9.alloc (.cells #[.int .i64 0, .int .i64 3, .int .i64 0, .int .i64 0, .int .i64 5, .int .i64 (lf)] 74)) (some ⟨w9.heap.size, 0, none⟩) 1 [⟨0, 3, 0, 0, 5, lf⟩] := lies_blk (K := kDd) (L := [⟨0, 3, 0, 0, 5, lf⟩]) (heap_alloc_at _ _ _ rfl) rfl (by simp [maxLen]) _
     have hbX := hb9.trans (e10.mono hb9.size)
     have hrow := C.row.below hbX
     have hsz := Nat.le_trans C.size hbX.size
     clear hS hD hM hC hP hF e10
     go_wp2_with (at_builtin; refine wpList_append elemDd _ rfl _ _ rfl w5.heap.size u7 (paidL has paid ++ refL D) rfl hrow _ 1 1 [⟨0, 3, 0, 0, 5, lf⟩] rfl rfl hone (by rw [List.length_append, hpl, hDl]; simp [maxLen]; omega) (by rw [List.length_append, hpl, hDl]; simp; omega) hsz ?_; intro v11 w11 hown hgrow hat hon)
     have C2 := C.grow hbX _ hown hgrow hat
     rw [List.append_assoc, ref_snoc] at C2
     go_roundw
     case rel => exact ⟨i + 1, _, _, by omega, by go_num, by go_num, R2.out, C2⟩
     case measure => simp [intOf]; omega
    ·have hla' : ¬ ((i : Int) = m - 1) := by omega
     have R2 := hid (R.mid hq0 (by omega))
     have hm0 : ¬ ((m : Int) = 0) := by omega
     go_upto_region 11 with fail
     go_upto_region 13 with fail
     go_wp2_with fail
     refine (hM _ _ _ _).mono ?_
     rintro _ w9 ⟨rfl, hb9⟩
     have e10 := below_alloc w9 (.cells #[.int .i64 0, .int .i64 3, .int .i64 0, .int .i64 0, .int .i64 5, .int .i64 (paid / m)] 74)
     have hone : Gn.Lies kDd (w9.alloc (.cells #[.int .i64 0, .int .i64 3, .int .i64 0, .int .i64 0, .int .i64 5, .int .i64 (paid / m)] 74)) (some ⟨w9.heap.size, 0, none⟩) 1 [⟨0, 3, 0, 0, 5, paid / m⟩] := lies_blk (K := kDd) (L := [⟨0, 3, 0, 0, 5, paid / m⟩]) (heap_alloc_at _ _ _ rfl) rfl (by simp [maxLen]) _
     have hbX := hb9.trans (e10.mono hb9.size)
     have hrow := C.row.below hbX
     have hsz := Nat.le_trans C.size hbX.size
     clear hS hD hM hC hP hF e10
     go_wp2_with (at_builtin; refine wpList_append elemDd _ rfl _ _ rfl w5.heap.size u7 (paidL has paid ++ refL D) rfl hrow _ 1 1 [⟨0, 3, 0, 0, 5, paid / m⟩] rfl rfl hone (by rw [List.length_append, hpl, hDl]; simp [maxLen]; omega) (by rw [List.length_append, hpl, hDl]; simp; omega) hsz ?_; intro v11 w11 hown hgrow hat hon)
     have C2 := C.grow hbX _ hown hgrow hat
     rw [List.append_assoc, ref_snoc] at C2
     go_roundw
     case rel => exact ⟨i + 1, _, _, by omega, by go_num, by go_num, R2.out, C2⟩
     case measure => simp [intOf]; omega
   ·obtain rfl : i = m := by omega
    have hge : ¬ ((i : Int) < i) := by omega
    have hDD : D = partsL paid (paid / i) i := by
     have := R.all
     rw [Nat.sub_self] at this
     simpa [partsL] using this
    have hbwr : Below w.heap.size w wr := hbw7.trans (C.bel.mono hw5)
    rw [hDD] at C
    clear hbw7 hbw5 hM hD hDl R hlf hDD
    go_upto_region 16 with fail
    go_upto_region 17 with fail
    refine (hS _).mono ?_
    rintro _ w8 ⟨za, c, rfl, hl, hb8, hza⟩
    have hC8 := hC w8 u7 w5.heap.size _ (C.row.below hb8) (Nat.le_trans C.size hb8.size) (by rw [List.length_append, hpl, refL, List.length_map, partsL_len]; omega)
    have hne : u7.ownBlock ≠ some za := fun e => by
     have := (C.row.block_lt _ e).2
     omega
    go_upto_region 17 with fail
    refine hC8.mono ?_
    rintro _ w9 ⟨v9, rfl, C9⟩
    have hbw8 := hbwr.trans (hb8.mono hbwr.size)
    have hbw9 : Below w.heap.size w w9 := hbw8.trans (C9.bel.mono hw5)
    have hl9 : Gn.Lies kPa w9 (some ⟨za, 0, none⟩) c psT := hl.keep C9.big fun ad h hlt => by
     cases h
     exact C9.keep _ hlt hne
    have hrow9 : Row kDd 74 w9 w5.heap.size v9 (retL has paid i) := C9.row
    obtain ⟨al, cl, rfl, hd9, -⟩ := hrow9.lies
    have hP1 := hP w9 _ _ _ _ hl9 hd9 (O.keep (hbw9.block 0 O.lt))
    rw [ret_len]
    clear hC hC8 hS hP hl hl9 C C9 hd9 hrow9 hbw8 hbwr hb8
    go_upto_region 17 with (first
     | (go_at_call 18; refine hP1.mono ?_; rintro _ w2 ⟨v, cs, ds, va, rfl, SH, AP, hb3⟩; obtain ⟨G1, G2, G3, G4, G5⟩ := got_box w2 #[.int .i64 0, .bool false, .slice none 0 0, .slice none 0 0, .slice none 0 0, .int .i64 0, .slice none 0 0, .int .i64 0, .slice none 0 0, .int .i64 0, .int .i64 0, .slice none 0 0, .slice none 0 0, .int .i64 0, .slice none 0 0, .slice none 0 0, .slice none 0 0, .slice none 0 0, .slice none 0 0] rfl b v (0, 0); have hF1 := hF _ _ _ _ _ SH G5; replace G3 := bko_cells G3; obtain ⟨t0, t1, t2, t3⟩ := fo_cells G2; obtain ⟨y0, y1, y2, y3⟩ := fo_cells G4; have hone := hid SH.one; have hinf : Hid ((Tryz.prog.info? 43).map (·.size) = some (cellsK b v).size) := hid infoK; have hb4 : Below w.heap.size w _ := (hbw9.trans (hb3.mono hbw9.size)).trans (G5.mono ((hbw9.trans (hb3.mono hbw9.size)).size)); dsimp only at t0 t1 y0 y1 G3 hb4 hF1; clear G4 G5 SH AP G2 hP1 hF; generalize cellsK b v = cc at *)
     | (refine wpList_store_mid rfl 43 _ _ rfl w2.heap.size 0 cc rfl rfl G1 hinf.out hone.out ?_))
    generalize ((((w2.alloc (.cells #[.int .i64 0, .bool false, .slice none 0 0, .slice none 0 0, .slice none 0 0, .int .i64 0, .slice none 0 0, .int .i64 0, .slice none 0 0, .int .i64 0, .int .i64 0, .slice none 0 0, .slice none 0 0, .int .i64 0, .slice none 0 0, .slice none 0 0, .slice none 0 0, .slice none 0 0, .slice none 0 0] 43)).alloc (.cells #[.int .i64 0, .int .i64 0] 47)).setCells w2.heap.size 0 cc.toList).setCell ⟨w2.heap.size + 1, 0, none⟩ (.int .i64 0)).setCell ⟨w2.heap.size + 1, 1, none⟩ (.int .i64 0) = Z at *
    obtain ⟨z2, o2, c2', z3, o3, c3', x, a4, c4', hvc, fx, k1, k2, hvd, f3, hvb⟩ := hF1
    obtain ⟨-, -, q2, q3, -, -, -, -, -, -, -, -, -, -, -, -, -, -, q18⟩ := G3
    rw [hvc] at q2
    rw [hvd] at q3
    rw [hvb] at q18
    have x0 := fx 0 _ rfl
    have x1 := fx 1 _ rfl
    have x2 := fx 2 _ rfl
    have x3 := fx 3 _ rfl
    have x4 := fx 4 _ rfl
    have x5 := fx 5 _ rfl
    simp only [Nat.add_zero] at x0
    have hFr := fun Y => free_any x.c x.a x.cap Y (by rw [k1]; omega) (by rw [k1]; omega) (by rw [k2]; omega) (by rw [k2]; omega)
    unfold cv at hFr
    rw [k1, k2] at hFr
    rw [k1] at x0
    rw [k2] at x1
    clear hvc hvd hvb G1 t0 t1 t2 t3 hb3 hbw9 hone hinf fx k1 k2
    go_wp2_with fail
    refine (hFr _).mono ?_
    rintro _ w12 ⟨rfl, hb12⟩
    have q3' := (hb12.cell (p := ⟨w2.heap.size, 3, none⟩) (cell_lt q3)).trans q3
    have q18' := (hb12.cell (p := ⟨w2.heap.size, 18, none⟩) (cell_lt q18)).trans q18
    have f3' := (hb12.cell (p := ⟨z2, o2, none⟩) (cell_lt f3)).trans f3
    have hbf := hb4.trans (hb12.mono hb4.size)
    go_wp2_with fail
    exact bodyPost_ret (results_tmp Tryz.results12 _ _ _) rfl ⟨by simp, hbf⟩
def given (count : Int) (i : Nat) : Nat := min i count.toNat
def dayD (n : Int) : Dd := if 0 < n then dMove 2 0 n else dMove 5 0 (-(max n (-1000000)))
theorem Got.more {b : Bank} {K M K2 M2 : Nat} {T c s has : Int} {a : Au.Au} (G : Got b K M T c s has a) (hK : K ≤ K2) (hM : M ≤ M2) : Got b K2 M2 T c s has a :=
 ⟨G.inv, G.bound.mono hK, G.down, G.time, G.auths, G.cards, G.due, G.cb, G.ob, G.db, G.out, G.way, fun i => Nat.le_trans (G.kept i) hM, fun i => by have := G.sent i; omega, Nat.le_trans G.today hK, G.card, G.shop, G.c01, G.s01⟩
theorem move_no {b : Bank} {mv n : Int} (hd : b.down = false) (ha : b.auths.length = 1) (he : Au.mvErr (b.auth 0) mv n ≠ 0) : (doB b (dMove mv 0 n)).1 = b := by
 refine doB_refused b _ ?_
 show (moveD b (dMove mv 0 n)).2 ≠ 0
 unfold moveD
 rw [if_neg (by rw [hd]; simp), if_neg (by show ¬ ((0 : Int) < 0 ∨ _ ≤ (0 : Int)); rw [ha]; omega), if_pos (show Au.mvErr (b.auth (dMove mv 0 n).n) (dMove mv 0 n).mv (dMove mv 0 n).sum ≠ 0 from he)]
 exact he
structure Dt (b : Bank) (K M : Nat) (has : Int) (a : Au.Au) : Prop where
 got : Got b K M 0 0 1 has a
 one : Dy.net 1 b.today = a.cap - a.ref
 zero : Dy.net 0 b.today = 0
 days : b.days = []
theorem Dt.step {b : Bank} {K M : Nat} {has : Int} {a : Au.Au} (D : Dt b K M has a) (hM : M ≤ 20) (hK : K ≤ 90) {mv : Int} (n : Int) (hmv : mv = 2 ∨ mv = 5) : ∃ a', Dt (doB b (dMove mv 0 n)).1 (K + 1) (M + 1) has a' := by
 have hau : b.auth 0 = a := by unfold Bank.auth; rw [D.got.auths]; rfl
 by_cases he : Au.mvErr a mv n = 0
 ·obtain ⟨e, G⟩ := D.got.step hM hK he (by omega)
  have ht : (doB b (dMove mv 0 n)).1.today = b.today ++ [⟨1, 0, mv, n⟩] := by
   rw [e]
   show b.today ++ [⟨(b.auth 0).shop, 0, mv, n⟩] = _
   rw [hau, D.got.shop]
  refine ⟨Au.step a mv n, G.more (Nat.le_refl _) (by unfold sends; split <;> omega), ?_, ?_, by rw [e]; exact D.days⟩
  ·have h1 := D.one
   unfold Dy.net at h1 ⊢
   rw [ht, Dy.sumBy_append, h1]
   rcases hmv with rfl | rfl
   ·simp [Dy.sumBy, Dy.netF, Dy.sgn, Au.step]; omega
   ·simp [Dy.sumBy, Dy.netF, Dy.sgn, Au.step]; omega
  ·have h1 := D.zero
   unfold Dy.net at h1 ⊢
   rw [ht, Dy.sumBy_append, h1]
   simp [Dy.sumBy, Dy.netF]
 ·rw [move_no D.got.down (by rw [D.got.auths]; rfl) (by rw [hau]; exact he)]
  exact ⟨a, D.got.more (by omega) (by omega), D.one, D.zero, D.days⟩
theorem Dt.all {has : Int} (l : List Int) : ∀ {b : Bank} {K M : Nat} {a : Au.Au}, Dt b K M has a → K + l.length ≤ 90 → M + l.length ≤ 20 → ∃ a', Dt (run b (l.map dayD)) (K + l.length) (M + l.length) has a' := by
 induction l with
 | nil => intro b K M a D _ _; exact ⟨a, D⟩
 | cons n r ih =>
  intro b K M a D h1 h2
  rw [List.length_cons] at h1 h2
  have h3 : ∃ a', Dt (doB b (dayD n)).1 (K + 1) (M + 1) has a' := by
   unfold dayD
   split
   ·exact D.step (by omega) (by omega) _ (Or.inl rfl)
   ·exact D.step (by omega) (by omega) _ (Or.inr rfl)
  obtain ⟨a', D'⟩ := h3
  obtain ⟨a2, D2⟩ := ih D' (by omega) (by omega)
  refine ⟨a2, ?_⟩
  rw [List.map_cons, run_cons, List.length_cons, show K + (r.length + 1) = K + 1 + r.length by omega, show M + (r.length + 1) = M + 1 + r.length by omega]
  exact D2
theorem log_len (b : Bank) (l : List Dd) : (playL b l).2.length = l.length := by
 have := congrArg List.length (playL_log b l)
 rwa [List.length_map] at this
theorem told_at (b : Bank) (l : List Dd) {i : Nat} (hi : i < l.length) (h0 : (l.getD i zD).id ≠ 0) : told (l.getD i zD).id (playL b l).2 = some (((playL b l).2.map (·.2)).getD i (0, 0)) := by
 have hi' : i < (playL b l).2.length := by rw [log_len]; exact hi
 have h1 : ((playL b l).2[i]).1 = l.getD i zD := by
  have : ((playL b l).2.map (·.1))[i]? = l[i]? := by rw [playL_log]
  rw [List.getElem?_map, List.getElem?_eq_getElem hi', List.getElem?_eq_getElem hi] at this
  simpa [List.getD, hi] using this
 have := first_playL b l ((playL b l).2[i]) (List.getElem_mem hi') (by rw [h1]; exact h0)
 rw [h1] at this
 rw [this]
 simp [List.getD, hi']
structure Sd (m all : List Dd) : Prop where
 ids : ∀ j, j < m.length → (m.getD j zD).id = (j : Int) + 1
 like : ∀ b, Alike (playL b m) (playL b all)
 mem : ∀ i, i < all.length → ∃ j, j < m.length ∧ all.getD i zD = m.getD j zD
theorem getD_snoc {l : List Dd} {d : Dd} {i : Nat} : (l ++ [d]).getD i zD = if i < l.length then l.getD i zD else if i = l.length then d else zD := by
 by_cases h : i < l.length
 ·rw [if_pos h, List.getD_eq_getElem?_getD, List.getElem?_append_left h, List.getD_eq_getElem?_getD]
 ·rw [if_neg h]
  by_cases h2 : i = l.length
  ·rw [if_pos h2, h2]; simp [List.getD]
  ·rw [if_neg h2]
   have : (l ++ [d])[i]? = none := by rw [List.getElem?_eq_none_iff]; simp; omega
   simp [List.getD, this]
theorem Sd.again {m all : List Dd} (S : Sd m all) {k : Nat} (hk : k < m.length) : Sd m (all ++ [m.getD k zD]) := by
 have h0 : (m.getD k zD).id ≠ 0 := by rw [S.ids k hk]; omega
 refine ⟨S.ids, fun b => ?_, fun i hi => ?_⟩
 ·rw [playL_snoc]
  refine (S.like b).again h0 (a := ((playL b m).2.map (·.2)).getD k (0, 0)) ?_
  rw [← (S.like b).told _ h0]
  exact told_at b m hk h0
 ·rw [List.length_append, List.length_singleton] at hi
  rw [getD_snoc]
  split
  ·rename_i h; exact S.mem i h
  ·rw [if_pos (by omega)]; exact ⟨k, hk, rfl⟩
theorem Sd.tell {m all : List Dd} (S : Sd m all) (b : Bank) {i : Nat} (hi : i < all.length) : ∃ j, j < m.length ∧ (all.getD i zD).id = (j : Int) + 1 ∧ ((playL b all).2.map (·.2)).getD i (0, 0) = ((playL b m).2.map (·.2)).getD j (0, 0) := by
 obtain ⟨j, h1, h2⟩ := S.mem i hi
 have h0 : (m.getD j zD).id ≠ 0 := by rw [S.ids j h1]; omega
 refine ⟨j, h1, by rw [h2]; exact S.ids j h1, ?_⟩
 have e1 := told_at b all hi (by rw [h2]; exact h0)
 have e2 := told_at b m h1 h0
 rw [h2, ← (S.like b).told _ h0, e2] at e1
 exact (Option.some.inj e1).symm
end Go.Proofs.YtofcnebekmjdoaaGreatDoor.Bn
