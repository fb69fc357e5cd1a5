import Derived.Test.YtofcnebekmjdoaaGreatDoorLPacead
set_option maxHeartbeats 4000000
set_option maxRecDepth 100000
namespace Go.Proofs.YtofcnebekmjdoaaGreatDoor.Bn
open Go.Proofs.YtofcnebekmjdoaaGreatDoor
theorem Pcs.ask {b : Bank} {N : Nat} {T ticks count : Int} {U : List (Int × Int)} (P : Pcs b N T ticks count U) (hN : N ≤ 20) (hU : ∀ u ∈ U, u.1 ≤ T ∧ u.2 = 1) (hl : U.length ≤ 20) :
  (count < ((recent (T - ticks) U).length : Int) + 1 → doB b (dAsk 0 0 1) = (b, 11, 0)) ∧ (((recent (T - ticks) U).length : Int) + 1 ≤ count → (doB b (dAsk 0 0 1)).2.1 = 0 ∧ Pcs (doB b (dAsk 0 0 1)).1 (N + 1) T ticks count (recent (T - ticks) U ++ [(T, 1)])) := by
 have hadd := P.add hU hl
 have cd : b.card 0 = ⟨1000, (N : Int), paceP ticks count, U⟩ := by unfold Bank.card; rw [P.cards]; rfl
 have t0 := P.inv.held.time0
 have t1 := P.inv.held.time1
 have R := P.inv.held.card (k := 0) (by decide) (by rw [P.cards]; simp)
 constructor
 ·intro q
  rw [if_pos q] at hadd
  have hn : Au.newA 0 0 1 b.time = (⟨0, 0, 1, 0, 0, 0, b.time + 100, false⟩, 0) := by
   unfold Au.newA
   rw [if_pos (by omega)]
  rw [P.time] at hn
  have hal := allowC_add (c := b.card 0) (s := 1) (t := b.time) (wrongC_ok.2 R) (by omega) (by rw [cd]; dsimp only; omega) (by rw [cd, P.time]; dsimp only; rw [hadd]; dsimp only; omega)
  rw [cd, P.time] at hal
  dsimp only at hal
  rw [hadd] at hal
  unfold doB dAsk
  simp only [if_neg (show ¬ ((2 : Int) = 1) by decide), if_true]
  unfold askB askUp
  simp only [hn, cd, P.time, hal, P.down]
  rw [if_neg (by rw [P.cards, P.due]; simp), if_neg (by simp), if_neg (by simp), if_neg (by rw [P.auths]; omega), if_pos (by decide)]
 ·intro q
  rw [if_neg (by omega)] at hadd
  have e := ask_done (n := 0) (shop := 0) (sum := 1) P.inv P.down (by decide) (by rw [P.cards]; simp) (by decide) (by rw [P.due]; decide) (by decide) (by rw [P.auths]; omega) (by rw [cd]; dsimp only; omega) (by rw [cd, P.time, hadd])
  have I2 := do_inv (d := dAsk 0 0 1) P.inv
  rw [cd, P.time] at e
  dsimp only at e
  rw [hadd] at e
  refine ⟨by rw [e], I2, by rw [e]; exact P.down, by rw [e], ?_, by rw [e]; exact P.due, ?_, ?_⟩
  ·rw [e]; show b.cards.set 0 _ = _; rw [P.cards]; simp
  ·rw [e]; show (b.auths ++ [_]).length = _; rw [List.length_append, P.auths, List.length_singleton]
  ·rw [e]
   intro a ha
   replace ha : a ∈ b.auths ++ [_] := ha
   rw [P.time] at t0
   rcases List.mem_append.1 ha with ha | ha
   ·exact P.open' a ha
   ·obtain rfl := List.mem_singleton.1 ha
    exact ⟨rfl, by dsimp only; omega⟩
theorem Pcs.tick {b : Bank} {N : Nat} {T ticks count : Int} {U : List (Int × Int)} (P : Pcs b N T ticks count U) {n : Int} (h0 : 0 ≤ n) (h1 : T + n < 100) : (doB b (dTick n)).2 = (0, 0) ∧ Pcs (doB b (dTick n)).1 N (T + n) ticks count U := by
 have t0 := P.inv.held.time0
 have e := tick_done (b := b) h0 t0 (by rw [P.time]; omega) P.down
 have I2 := do_inv (d := dTick n) P.inv
 have hla : ∀ a ∈ b.auths, Au.lateA a (b.time + n) = a := fun a ha => by
  have := P.open' a ha
  unfold Au.lateA
  rw [this.1, P.time]
  have hd : decide (a.till ≤ T + n) = false := decide_eq_false (by omega)
  rw [hd]
  cases a; simp_all
 have hau : b.auths.map (fun a => Au.lateA a (b.time + n)) = b.auths := by
  conv => rhs; rw [← List.map_id b.auths]
  exact List.map_congr_left fun a ha => hla a ha
 obtain ⟨f1, f2⟩ := fold_late (b.time + n) b.auths b.cards fun a ha => ⟨(P.inv.held.auths a ha).1.2.2.2.2.1.1, (P.inv.held.auths a ha).2.2.1⟩
 have g := f2 0 (by rw [P.cards]; simp)
 have hz : sumOn (lateBy (b.time + n) 0) b.auths = 0 := sumOn_zero fun a ha => by
  unfold lateBy
  rw [hla a ha]
  split <;> omega
 rw [hz] at g
 have hcs : (b.auths.foldl (lateC (b.time + n)) b.cards) = [⟨1000, (N : Int), paceP ticks count, U⟩] := by
  rw [P.cards] at f1 g ⊢
  match hL : b.auths.foldl (lateC (b.time + n)) [⟨1000, (N : Int), paceP ticks count, U⟩], f1, g with
  | [c], _, g =>
   have : c = ⟨1000, (N : Int) + 0, paceP ticks count, U⟩ := g
   rw [this, Int.add_zero]
  | [], f1, _ => simp at f1
  | _ :: _ :: _, f1, _ => simp at f1
 refine ⟨by rw [e], I2, by rw [e]; exact P.down, by rw [e]; show b.time + n = _; rw [P.time], ?_, by rw [e]; exact P.due, ?_, ?_⟩
 ·rw [e]; exact hcs
 ·rw [e]; show (b.auths.map _).length = _; rw [List.length_map, P.auths]
 ·rw [e]; show ∀ a ∈ b.auths.map (fun a => Au.lateA a (b.time + n)), _; rw [hau]; exact P.open'
theorem recent_all {o : Int} {L : List (Int × Int)} (h : ∀ u ∈ L, o < u.1) : recent o L = L := List.filter_eq_self.2 fun u hu => by simpa using h u hu
theorem recent_none {o : Int} {L : List (Int × Int)} (h : ∀ u ∈ L, u.1 ≤ o) : recent o L = [] := List.filter_eq_nil_iff.2 fun u hu => by have := h u hu; simp; omega
theorem recent_append (o : Int) (A B : List (Int × Int)) : recent o (A ++ B) = recent o A ++ recent o B := List.filter_append ..
def given (count : Int) (i : Nat) : Nat := min i count.toNat
theorem pace_asks {ticks count : Int} (h1 : 1 ≤ ticks) (c0 : 0 ≤ count) (c1 : count ≤ 12) (m : Nat) : ∀ (i : Nat) (b : Bank), i + m ≤ 12 → Pcs b (given count i) 0 ticks count (List.replicate (given count i) (0, 1)) →
  Pcs (run b (List.replicate m (dAsk 0 0 1))) (given count (i + m)) 0 ticks count (List.replicate (given count (i + m)) (0, 1)) ∧
  (ansL b (List.replicate m (dAsk 0 0 1))).length = m ∧ ∀ j, j < m → ((ansL b (List.replicate m (dAsk 0 0 1))).getD j (0, 0)).1 = if ((i + j : Nat) : Int) < count then 0 else 11 := by
 induction m with
 | zero => intro i b _ P; exact ⟨P, rfl, fun j hj => by omega⟩
 | succ m ih =>
  intro i b hi P
  have hg : given count i ≤ 12 := by unfold given; omega
  have hU : ∀ u ∈ List.replicate (given count i) ((0 : Int), (1 : Int)), u.1 ≤ 0 ∧ u.2 = 1 := fun u hu => by
   obtain rfl := (List.mem_replicate.1 hu).2
   exact ⟨by decide, rfl⟩
  have hr : recent (0 - ticks) (List.replicate (given count i) ((0 : Int), (1 : Int))) = List.replicate (given count i) (0, 1) := recent_all fun u hu => by
   obtain rfl := (List.mem_replicate.1 hu).2
   dsimp only; omega
  obtain ⟨f1, f2⟩ := P.ask (by omega) hU (by simp; omega)
  rw [hr, List.length_replicate] at f1 f2
  have hcons : List.replicate (m + 1) (dAsk 0 0 1) = dAsk 0 0 1 :: List.replicate m (dAsk 0 0 1) := List.replicate_succ
  have key : Pcs (doB b (dAsk 0 0 1)).1 (given count (i + 1)) 0 ticks count (List.replicate (given count (i + 1)) (0, 1)) ∧ (doB b (dAsk 0 0 1)).2.1 = if ((i : Nat) : Int) < count then 0 else 11 := by
   by_cases q : (i : Int) < count
   ·have e1 : given count (i + 1) = given count i + 1 := by unfold given; omega
    obtain ⟨g1, g2⟩ := f2 (by unfold given; omega)
    rw [e1, if_pos q, List.replicate_succ']
    exact ⟨g2, g1⟩
   ·have e1 : given count (i + 1) = given count i := by unfold given; omega
    have g1 := f1 (by unfold given; omega)
    rw [e1, if_neg q, g1]
    exact ⟨P, rfl⟩
  obtain ⟨k1, k2, k3⟩ := ih (i + 1) _ (by omega) key.1
  rw [show i + 1 + m = i + (m + 1) by omega] at k1
  rw [hcons]
  refine ⟨k1, by simp only [ansL, List.length_cons]; rw [k2], fun j hj => ?_⟩
  cases j with
  | zero => simp only [ansL]; exact key.2
  | succ j =>
   have := k3 j (by omega)
   rw [show i + 1 + j = i + (j + 1) by omega] at this
   simpa [ansL] using this
def paceL (times : Nat) (ticks : Int) : List Dd := [dLoad 0 1000] ++ (List.replicate times (dAsk 0 0 1) ++ [dTick (ticks - 1), dAsk 0 0 1, dTick 1, dAsk 0 0 1])
def paceS (ticks count : Int) : Bank := startB [paceP ticks count] 1 0
theorem pace_inv {ticks count : Int} (h1 : 1 ≤ ticks) (h2 : ticks ≤ 50) (c0 : 0 ≤ count) (c1 : count ≤ 12) : Inv (paceS ticks count) := start_inv (by simp) (by decide) (by unfold St.Lim; omega) (by
 intro p hp
 have : p = paceP ticks count := by simpa using hp
 subst this
 exact wrongP_ok.2 ⟨h1, by show ticks ≤ _; omega, c0, by show count ≤ _; omega, by show (0 : Int) ≤ 1000; decide, by show (1000 : Int) ≤ _; decide⟩)
theorem pace_plain {ticks count : Int} {times : Nat} (h1 : 1 ≤ ticks) (h2 : ticks ≤ 50) (c0 : 0 ≤ count) (c1 : count ≤ 12) (ht : times ≤ 12) :
  ∃ (A : List An) (e1 e2 : An), ansL (paceS ticks count) (paceL times ticks) = (0, 0) :: (A ++ [(0, 0), e1, (0, 0), e2]) ∧ A.length = times ∧ (∀ j, j < times → (A.getD j (0, 0)).1 = if (j : Int) < count then 0 else 11) ∧
   (e1.1 = 0 ↔ (times : Int) < count) ∧ (e2.1 = 0 ↔ (1 < count ∨ count = 1 ∧ ¬ ((times : Int) < count) ∨ count = 1 ∧ ticks = 1)) := by
 have I0 := pace_inv h1 h2 c0 c1
 have B0 : Bound 0 (paceS ticks count) := start_bound _ _ _
 have e0 := load_done (n := 0) (sum := 1000) I0 B0 (by decide) (by decide) (by show (0 : Int) < 1; decide) (by decide) (by show _ ≤ (0 : Int); decide)
 have I1 := do_inv (d := dLoad 0 1000) I0
 have P1 : Pcs (doB (paceS ticks count) (dLoad 0 1000)).1 (given count 0) 0 ticks count (List.replicate (given count 0) (0, 1)) := by
  have g0 : given count 0 = 0 := by unfold given; omega
  rw [g0]
  refine ⟨I1, by rw [e0]; rfl, by rw [e0]; rfl, by rw [e0]; rfl, by rw [e0]; rfl, by rw [e0]; rfl, ?_⟩
  rw [e0]
  intro a ha
  cases ha
 obtain ⟨P2, l2, A2⟩ := pace_asks h1 c0 c1 times 0 _ (by omega) P1
 rw [Nat.zero_add] at P2
 unfold paceL
 rw [ans_append, ans_append]
 have ea : ansL (paceS ticks count) [dLoad 0 1000] = [(0, 0)] := by simp only [ansL]; rw [e0]
 rw [ea, show run (paceS ticks count) [dLoad 0 1000] = (doB (paceS ticks count) (dLoad 0 1000)).1 from rfl]
 generalize (doB (paceS ticks count) (dLoad 0 1000)).1 = b1 at *
 generalize ansL b1 (List.replicate times (dAsk 0 0 1)) = A at *
 generalize run b1 (List.replicate times (dAsk 0 0 1)) = b2 at *
 obtain ⟨t3, P3⟩ := P2.tick (n := ticks - 1) (by omega) (by omega)
 have e3 : ansL b2 [dTick (ticks - 1), dAsk 0 0 1, dTick 1, dAsk 0 0 1] = (0, 0) :: ansL (doB b2 (dTick (ticks - 1))).1 [dAsk 0 0 1, dTick 1, dAsk 0 0 1] := by
  simp only [ansL]; rw [t3]
 rw [e3]
 generalize (doB b2 (dTick (ticks - 1))).1 = b3 at *
 have hg : given count times ≤ 12 := by unfold given; omega
 have hR : ∀ u ∈ List.replicate (given count times) ((0 : Int), (1 : Int)), u = (0, 1) := fun u hu => (List.mem_replicate.1 hu).2
 obtain ⟨f1, f2⟩ := P3.ask (by omega) (fun u hu => by obtain rfl := hR u hu; exact ⟨by dsimp only; omega, rfl⟩) (by simp; omega)
 have hr3 : recent (0 + (ticks - 1) - ticks) (List.replicate (given count times) ((0 : Int), (1 : Int))) = List.replicate (given count times) (0, 1) := recent_all fun u hu => by
  obtain rfl := hR u hu
  dsimp only; omega
 rw [hr3, List.length_replicate] at f1 f2
 -- the one right ahead
 have s4 : ∃ (N : Nat) (U : List (Int × Int)), N ≤ 13 ∧ U.length ≤ 13 ∧ Pcs (doB b3 (dAsk 0 0 1)).1 N (0 + (ticks - 1)) ticks count U ∧ (∀ u ∈ U, u.1 ≤ ticks ∧ u.2 = 1) ∧ ((doB b3 (dAsk 0 0 1)).2.1 = 0 ↔ (times : Int) < count) ∧
   (recent 0 U).length = if (times : Int) < count ∧ 1 < ticks then 1 else 0 := by
  by_cases q : (times : Int) < count
  ·obtain ⟨g1, g2⟩ := f2 (by unfold given; omega)
   refine ⟨_, _, ?_, ?_, g2, ?_, ⟨fun _ => q, fun _ => g1⟩, ?_⟩
   ·omega
   ·simp; omega
   ·intro u hu
    rcases List.mem_append.1 hu with hu | hu
    ·obtain rfl := hR u hu; exact ⟨by dsimp only; omega, rfl⟩
    ·obtain rfl := List.mem_singleton.1 hu; exact ⟨by dsimp only; omega, rfl⟩
   ·rw [recent_append, recent_none (L := List.replicate (given count times) ((0 : Int), (1 : Int))) (fun u hu => by obtain rfl := hR u hu; exact Int.le_refl _), List.nil_append]
    by_cases q2 : 1 < ticks
    ·rw [if_pos ⟨q, q2⟩, recent_all (fun u hu => by obtain rfl := List.mem_singleton.1 hu; dsimp only; omega)]; rfl
    ·rw [if_neg (fun h => q2 h.2), recent_none (fun u hu => by obtain rfl := List.mem_singleton.1 hu; dsimp only; omega)]; rfl
  ·have g1 := f1 (by unfold given; omega)
   rw [g1]
   refine ⟨_, _, by omega, by simp; omega, P3, ?_, ⟨fun h => by simp at h, fun h => absurd h q⟩, ?_⟩
   ·intro u hu
    obtain rfl := hR u hu; exact ⟨by dsimp only; omega, rfl⟩
   ·rw [if_neg (fun h => q h.1), recent_none (fun u hu => by obtain rfl := hR u hu; exact Int.le_refl _)]; rfl
 obtain ⟨N, U, hN, hl, P4, hU, r4, hrec⟩ := s4
 obtain ⟨t5, P5⟩ := P4.tick (n := 1) (by decide) (by omega)
 obtain ⟨k1, k2⟩ := P5.ask (by omega) (fun u hu => by have := hU u hu; exact ⟨by omega, this.2⟩) (by omega)
 rw [show (0 + (ticks - 1) + 1 - ticks : Int) = 0 by omega, hrec] at k1 k2
 refine ⟨A, (doB b3 (dAsk 0 0 1)).2, (doB (doB (doB b3 (dAsk 0 0 1)).1 (dTick 1)).1 (dAsk 0 0 1)).2, ?_, l2, ?_, r4, ?_⟩
 ·simp only [ansL, List.cons_append, List.nil_append]
  rw [t5]
 ·intro j hj
  have := A2 j hj
  rwa [Nat.zero_add] at this
 ·by_cases q : count < ((if (times : Int) < count ∧ 1 < ticks then 1 else 0 : Nat) : Int) + 1
  ·rw [k1 q]
   constructor
   ·intro h; simp at h
   ·intro h
    exfalso
    split at q <;> omega
  ·have := (k2 (by omega)).1
   constructor
   ·intro _
    split at q <;> omega
   ·intro _; exact this
open Go.RowKit Go.Proofs.YtofcnebekmjdoaaGreatDoor.Gn Go.Maps
theorem playR_pace {ticks count : Int} (h1 : 1 ≤ ticks) (h2 : ticks ≤ 50) (c0 : 0 ≤ count) (c1 : count ≤ 12) {l : List Dd} (h0 : ∀ d ∈ l, d.id = 0) (hl : l.length ≤ 150) : playR [paceP ticks count] 1 0 l = (run (paceS ticks count) l, ansL (paceS ticks count) l, (0, 0)) := by
 have hw : wrongP (paceP ticks count) = 0 := wrongP_ok.2 ⟨h1, by show ticks ≤ _; omega, c0, by show count ≤ _; omega, by show (0 : Int) ≤ 1000; decide, by show (1000 : Int) ≤ _; decide⟩
 have hE : setErr [paceP ticks count] 1 0 = (0, 0) := by
  unfold setErr
  rw [if_neg (by simp), if_neg (by decide)]
  unfold badGo
  rw [if_neg (by simpa using hw)]
  rfl
 unfold playR
 rw [hE, if_neg (by simp), if_neg (by omega), ← play_run0 _ _ h0, ← play_ans _ _ h0]
 rfl
theorem pace_ids (times : Nat) (ticks : Int) : ∀ d ∈ paceL times ticks, d.id = 0 := by
 intro d hd
 unfold paceL at hd
 rcases List.mem_append.1 hd with h | h
 ·simp at h; rw [h]; rfl
 ·rcases List.mem_append.1 h with h | h
  ·rw [(List.mem_replicate.1 h).2]; rfl
  ·simp [dTick, dAsk] at h; rcases h with rfl | rfl | rfl | rfl <;> rfl
theorem pace_len (times : Nat) (ticks : Int) : (paceL times ticks).length = times + 5 := by
 unfold paceL
 simp
theorem pace_more (k : Nat) : ([dLoad 0 1000] ++ List.replicate k (dAsk 0 0 1)) ++ [⟨0, 2, 0, 0, 0, 1⟩] = [dLoad 0 1000] ++ List.replicate (k + 1) (dAsk 0 0 1) := by
 rw [List.replicate_succ', List.append_assoc]; rfl
theorem pace_last (times : Nat) (ticks : Int) : ([dLoad 0 1000] ++ List.replicate times (dAsk 0 0 1)) ++ [⟨0, 4, 0, 0, 0, ticks - 1⟩, ⟨0, 2, 0, 0, 0, 1⟩, ⟨0, 4, 0, 0, 0, 1⟩, ⟨0, 2, 0, 0, 0, 1⟩] = paceL times ticks := by
 unfold paceL
 rw [List.append_assoc]; rfl
theorem pace_facts {ticks count : Int} {times : Nat} (h1 : 1 ≤ ticks) (h2 : ticks ≤ 50) (c0 : 0 ≤ count) (c1 : count ≤ 12) (ht : times ≤ 12) {W W' : World} {v : Vs} {cs : List CV} {ds : List DV} {va : Value} (_ : Shows W (run (paceS ticks count) (paceL times ticks)) v cs ds) (AP : Ap kAn (fun _ => 0) W va (ansL (paceS ticks count) (paceL times ticks)) 0) (hb : Below W.heap.size W W') :
  ∃ (z1 o1 q1 : Nat) (e1 e2 : Int), va = .slice (some ⟨z1, o1, none⟩) (times + 5) q1 ∧ (∀ j, j < times → W'.cell? ⟨z1, o1 + (1 + j) * 2, none⟩ = some (.int .i64 (if (j : Int) < count then 0 else 11))) ∧ W'.cell? ⟨z1, o1 + (times + 2) * 2, none⟩ = some (.int .i64 e1) ∧ W'.cell? ⟨z1, o1 + (times + 4) * 2, none⟩ = some (.int .i64 e2) ∧
   (e1 = 0 ↔ (times : Int) < count) ∧ (e2 = 0 ↔ (1 < count ∨ count = 1 ∧ ¬ ((times : Int) < count) ∨ count = 1 ∧ ticks = 1)) := by
 obtain ⟨A, e1, e2, p1, p2, p3, p4, p5⟩ := pace_plain h1 h2 c0 c1 ht
 rw [p1] at AP
 obtain ⟨a1, q1, h1', l1⟩ := AP.lies
 have hlen : ((0, 0) :: (A ++ [(0, 0), e1, (0, 0), e2])).length = times + 5 := by simp [p2]
 rw [hlen] at h1'
 obtain ⟨z1, o1, rfl, -, f0⟩ := (l1.below hb).elem (i := times + 2) (x := e1) (by
  rw [List.getElem?_cons_succ, List.getElem?_append_right (by omega), p2, show times + 1 - times = 1 by omega]; rfl)
 obtain ⟨z2, o2, e, -, f1⟩ := (l1.below hb).elem (i := times + 4) (x := e2) (by
  rw [List.getElem?_cons_succ, List.getElem?_append_right (by omega), p2, show times + 3 - times = 3 by omega]; rfl)
 cases e
 refine ⟨z1, o1, q1, e1.1, e2.1, h1', fun j hj => ?_, f0 0 _ rfl, f1 0 _ rfl, p4, p5⟩
 obtain ⟨z2, o2, e, -, f2⟩ := (l1.below hb).elem (i := 1 + j) (x := A.getD j (0, 0)) (by
  rw [Nat.add_comm, List.getElem?_cons_succ, List.getElem?_append_left (by omega)]
  simp [List.getD, show j < A.length by omega])
 cases e
 rw [← p3 j hj]
 exact f2 0 _ rfl
theorem pace_any (count times ticks : Int) (w : World) (_ : -9223372036854775808 ≤ count ∧ count ≤ 9223372036854775807) (_ : -9223372036854775808 ≤ times ∧ times ≤ 9223372036854775807) (_ : -9223372036854775808 ≤ ticks ∧ ticks ≤ 9223372036854775807) (O : Oth w) :
  Calls Tryz.prog 17 #[.int .i64 count, .int .i64 times, .int .i64 ticks] w fun e w' => e = .returned (.bool true) ∧ Below w.heap.size w w' := by
 have hA := talive_any w O
 have hD := fun (k n s : Int) (X : World) => tdo_any k n s X
 unfold ddv at hD
 go_enter Tryz.func17, Tryz.ntmps17
 go_upto_region 1 with fail
 go_upto_region 2 with fail
 refine hA.mono ?_
 rintro _ w1 ⟨rfl, hbw⟩
 clear hA
 go_upto_region 3 with fail
 by_cases c1 : count < 0
 ·clear hD
  go_wp2_with fail
  exact bodyPost_ret (results_tmp Tryz.results17 _ _ _) rfl ⟨rfl, hbw⟩
 by_cases c2 : 12 < count
 ·clear hD
  go_wp2_with fail
  exact bodyPost_ret (results_tmp Tryz.results17 _ _ _) rfl ⟨rfl, hbw⟩
 by_cases c3 : times < 0
 ·clear hD
  go_wp2_with fail
  exact bodyPost_ret (results_tmp Tryz.results17 _ _ _) rfl ⟨rfl, hbw⟩
 by_cases c4 : 12 < times
 ·clear hD
  go_wp2_with fail
  exact bodyPost_ret (results_tmp Tryz.results17 _ _ _) rfl ⟨rfl, hbw⟩
 by_cases c5 : ticks < 1
 ·clear hD
  go_wp2_with fail
  exact bodyPost_ret (results_tmp Tryz.results17 _ _ _) rfl ⟨rfl, hbw⟩
 by_cases c6 : 50 < ticks
 ·clear hD
  go_wp2_with fail
  exact bodyPost_ret (results_tmp Tryz.results17 _ _ _) rfl ⟨rfl, hbw⟩
 obtain ⟨m, rfl⟩ : ∃ m : Nat, times = m := ⟨times.toNat, by omega⟩
 have hP := fun (W : World) (u : Option Addr) (c : Nat) (al : Option Addr) (cl : Nat) (h : Gn.Lies kPa W u c [paceP ticks count]) (hd : Gn.Lies kDd W al cl (paceL m ticks)) (hO : Oth W) => play_any [paceP ticks count] u c 1 0 al cl (paceL m ticks) W h hd (fit0 (pace_ids m ticks)) hO
 have hF := fun (W W' : World) (v : Vs) (cs : List CV) (ds : List DV) (va : Value) SH AP hb => pace_facts (ticks := ticks) (count := count) (times := m) (W := W) (W' := W') (v := v) (cs := cs) (ds := ds) (va := va) (by omega) (by omega) (by omega) (by omega) (by omega) SH AP hb
 rw [playR_pace (by omega) (by omega) (by omega) (by omega) (pace_ids m ticks) (by rw [pace_len]; omega), show [paceP ticks count].length = 1 from rfl, pace_len] at hP
 unfold Plays at hP
 dsimp only at hP
 generalize run (paceS ticks count) (paceL m ticks) = b at *
 generalize ansL (paceS ticks count) (paceL m ticks) = A at *
 simp only [bkv_cells] at hP
 unfold suv at hP
 unfold Dy.fv at hP
 have e1 := below_alloc w1 (.cells #[.int .i64 ticks, .int .i64 count, .int .i64 1000] 58)
 have hl1 : Gn.Lies kPa (w1.alloc (.cells #[.int .i64 ticks, .int .i64 count, .int .i64 1000] 58)) (some ⟨w1.heap.size, 0, none⟩) 1 [paceP ticks count] := lies_blk (K := kPa) (L := [paceP ticks count]) (heap_alloc_at _ _ _ rfl) rfl (by simp [maxLen]) _
 have e2 := below_alloc (w1.alloc (.cells #[.int .i64 ticks, .int .i64 count, .int .i64 1000] 58)) (suo (.slice (some ⟨w1.heap.size, 0, none⟩) 1 1) 1 0)
 have hs2 : ((w1.alloc (.cells #[.int .i64 ticks, .int .i64 count, .int .i64 1000] 58)).alloc (suo (.slice (some ⟨w1.heap.size, 0, none⟩) 1 1) 1 0)).heap[w1.heap.size + 1]? = some (suo (.slice (some ⟨w1.heap.size, 0, none⟩) 1 1) 1 0) := heap_alloc_at _ _ _ (by simp)
 have hl2 := hl1.below e2
 have hb12 := e1.trans (e2.mono (by simp))
 have hbw2 := hbw.trans (hb12.mono hbw.size)
 clear hl1 e1 e2 hb12 hbw
 unfold suo at hs2 hl2 hbw2
 go_upto_region 6 with fail
 generalize (w1.alloc (.cells #[.int .i64 ticks, .int .i64 count, .int .i64 1000] 58)).alloc (.cells #[.slice (some ⟨w1.heap.size, 0, none⟩) 1 1, .int .i64 1, .int .i64 0] 24) = w2' at *
 go_upto_region 7 with fail
 refine (hD _ _ _ _).mono ?_
 rintro _ w3 ⟨rfl, hb3⟩
 have e4 := below_alloc w3 (.cells #[.int .i64 0, .int .i64 1, .int .i64 0, .int .i64 0, .int .i64 0, .int .i64 1000] 74)
 have hd4 : Gn.Lies kDd (w3.alloc (.cells #[.int .i64 0, .int .i64 1, .int .i64 0, .int .i64 0, .int .i64 0, .int .i64 1000] 74)) (some ⟨w3.heap.size, 0, none⟩) 1 ([dLoad 0 1000] ++ List.replicate 0 (dAsk 0 0 1)) := lies_blk (K := kDd) (L := [dLoad 0 1000]) (heap_alloc_at _ _ _ rfl) rfl (by simp [maxLen]) _
 have hR4 : Row kDd 74 (w3.alloc (.cells #[.int .i64 0, .int .i64 1, .int .i64 0, .int .i64 0, .int .i64 0, .int .i64 1000] 74)) w3.heap.size (.slice (some ⟨w3.heap.size, 0, none⟩) 1 1) ([dLoad 0 1000] ++ List.replicate 0 (dAsk 0 0 1)) := Row.full (L := [dLoad 0 1000] ++ List.replicate 0 (dAsk 0 0 1)) w3.heap.size (Nat.le_refl _) hd4 (by simp)
 have hb34 := hb3.trans (e4.mono hb3.size)
 have hs4 := (hb34.block _ (lt_of_block hs2)).trans hs2
 have hl4 := hl2.below hb34
 have hbw4 := hbw2.trans (hb34.mono hbw2.size)
 have hbase : w.heap.size ≤ w3.heap.size := Nat.le_trans hbw2.size hb3.size
 have hn1 : w1.heap.size + 1 < w3.heap.size := Nat.lt_of_lt_of_le (lt_of_block hs2) hb3.size
 clear hd4 hb3 e4 hs2 hl2 hbw2 hb34
 go_upto_region 8 with fail
 generalize hw4 : w3.alloc (.cells #[.int .i64 0, .int .i64 1, .int .i64 0, .int .i64 0, .int .i64 0, .int .i64 1000] 74) = w4 at *
 have hsz4 : w3.heap.size ≤ w4.heap.size := by rw [← hw4]; simp
 clear hw4
 have C0 := cg_start hR4 hsz4
 go_loopw [47, 8] (fun i vo wr => ∃ k : Nat, k ≤ m ∧ i = .int .i64 k ∧ Cg w4 wr (.slice (some ⟨w3.heap.size, 0, none⟩) 1 1) w3.heap.size vo ([dLoad 0 1000] ++ List.replicate k (dAsk 0 0 1))) (fun i _ _ => m - (intOf i).toNat)
 case atStart => exact ⟨0, Nat.zero_le _, rfl, C0⟩
 case round =>
  clear C0 hR4
  obtain ⟨k, hk, rfl, C⟩ := hrel
  have hlen : ([dLoad 0 1000] ++ List.replicate k (dAsk 0 0 1)).length = k + 1 := by simp
  by_cases hlt : k < m
  ·have hlt' : (k : Int) < m := by omega
   have hmo := hid (pace_more k)
   go_upto_region 9 with fail
   go_wp2_with fail
   refine (hD _ _ _ _).mono ?_
   rintro _ w5 ⟨rfl, hb5⟩
   have e6 := below_alloc w5 (.cells #[.int .i64 0, .int .i64 2, .int .i64 0, .int .i64 0, .int .i64 0, .int .i64 1] 74)
   have hone : Gn.Lies kDd (w5.alloc (.cells #[.int .i64 0, .int .i64 2, .int .i64 0, .int .i64 0, .int .i64 0, .int .i64 1] 74)) (some ⟨w5.heap.size, 0, none⟩) 1 [⟨0, 2, 0, 0, 0, 1⟩] := lies_blk (K := kDd) (L := [⟨0, 2, 0, 0, 0, 1⟩]) (heap_alloc_at _ _ _ rfl) rfl (by simp [maxLen]) _
   have hbX := hb5.trans (e6.mono hb5.size)
   have hrow := C.row.below hbX
   have hsz := Nat.le_trans C.size hbX.size
   clear hD hP hF e6 hb5
   go_wp2_with (at_builtin; refine wpList_append elemDd _ rfl _ _ rfl w3.heap.size u8 ([dLoad 0 1000] ++ List.replicate k (dAsk 0 0 1)) rfl hrow _ 1 1 [⟨0, 2, 0, 0, 0, 1⟩] rfl rfl hone (by rw [hlen]; simp [maxLen]; omega) (by rw [hlen]; simp; omega) hsz ?_; intro v11 w11 hown hgrow hat hon)
   have C2 := C.grow hbX _ hown hgrow hat
   rw [hmo.out] at C2
   go_roundw
   case rel => exact ⟨k + 1, by omega, by go_num, C2⟩
   case measure => simp [intOf]; omega
  ·obtain rfl : k = m := by omega
   have hge : ¬ ((k : Int) < k) := by omega
   have hwp : IntKind.i64.wrap (ticks - 1) = ticks - 1 := wrap64' (by omega) (by omega)
   go_upto_region 11 with fail
   go_upto_region 12 with fail
   refine (hD _ _ _ _).mono ?_
   rintro _ w5 ⟨rfl, hb5⟩
   go_upto_region 12 with fail
   refine (hD _ _ _ _).mono ?_
   rintro _ w6 ⟨rfl, hb6⟩
   go_upto_region 12 with fail
   refine (hD _ _ _ _).mono ?_
   rintro _ w7 ⟨rfl, hb7⟩
   go_upto_region 12 with fail
   refine (hD _ _ _ _).mono ?_
   rintro _ w8 ⟨rfl, hb8⟩
   have hb58 := ((hb5.trans (hb6.mono hb5.size)).trans (hb7.mono (Nat.le_trans hb5.size hb6.size))).trans (hb8.mono (Nat.le_trans (Nat.le_trans hb5.size hb6.size) hb7.size))
   have e9 := below_alloc w8 (.cells #[.int .i64 0, .int .i64 4, .int .i64 0, .int .i64 0, .int .i64 0, .int .i64 (ticks - 1), .int .i64 0, .int .i64 2, .int .i64 0, .int .i64 0, .int .i64 0, .int .i64 1, .int .i64 0, .int .i64 4, .int .i64 0, .int .i64 0, .int .i64 0, .int .i64 1, .int .i64 0, .int .i64 2, .int .i64 0, .int .i64 0, .int .i64 0, .int .i64 1] 74)
   have hone : Gn.Lies kDd (w8.alloc (.cells #[.int .i64 0, .int .i64 4, .int .i64 0, .int .i64 0, .int .i64 0, .int .i64 (ticks - 1), .int .i64 0, .int .i64 2, .int .i64 0, .int .i64 0, .int .i64 0, .int .i64 1, .int .i64 0, .int .i64 4, .int .i64 0, .int .i64 0, .int .i64 0, .int .i64 1, .int .i64 0, .int .i64 2, .int .i64 0, .int .i64 0, .int .i64 0, .int .i64 1] 74)) (some ⟨w8.heap.size, 0, none⟩) 4 [⟨0, 4, 0, 0, 0, ticks - 1⟩, ⟨0, 2, 0, 0, 0, 1⟩, ⟨0, 4, 0, 0, 0, 1⟩, ⟨0, 2, 0, 0, 0, 1⟩] := lies_blk (K := kDd) (L := [⟨0, 4, 0, 0, 0, ticks - 1⟩, ⟨0, 2, 0, 0, 0, 1⟩, ⟨0, 4, 0, 0, 0, 1⟩, ⟨0, 2, 0, 0, 0, 1⟩]) (heap_alloc_at _ _ _ rfl) rfl (by simp [maxLen]) _
   have hbX := hb58.trans (e9.mono hb58.size)
   have hrow := C.row.below hbX
   have hsz := Nat.le_trans C.size hbX.size
   clear hD e9 hb5 hb6 hb7 hb8 hb58
   go_upto_region 12 with (at_builtin; refine wpList_append elemDd _ rfl _ _ rfl w3.heap.size u8 ([dLoad 0 1000] ++ List.replicate k (dAsk 0 0 1)) rfl hrow _ 4 4 [⟨0, 4, 0, 0, 0, ticks - 1⟩, ⟨0, 2, 0, 0, 0, 1⟩, ⟨0, 4, 0, 0, 0, 1⟩, ⟨0, 2, 0, 0, 0, 1⟩] rfl rfl hone (by rw [hlen]; simp [maxLen]; omega) (by rw [hlen]; simp; omega) hsz ?_; intro v11 w11 hown hgrow hat hon)
   have C2 := C.grow hbX _ hown hgrow hat
   rw [pace_last] at C2
   have hbw12 : Below w.heap.size w w11 := hbw4.trans (C2.bel.mono hbase)
   have hs12 := (C2.bel.block _ hn1).trans hs4
   have hl12 : Gn.Lies kPa w11 (some ⟨w1.heap.size, 0, none⟩) 1 [paceP ticks count] := hl4.keep C2.big fun ad h _ => by
    cases h
    exact C2.bel.block _ (by dsimp only; omega)
   obtain ⟨al, cl, rfl, hd12, -⟩ := C2.row.lies
   have hP1 := hP w11 _ _ _ _ hl12 hd12 (O.keep (hbw12.block 0 O.lt))
   obtain ⟨s0, s1, s2⟩ := sul_cells hs12
   rw [pace_len]
   clear hP hl4 hl12 hd12 hs4 hs12 hown hgrow hat hon C C2 hrow hone hsz hbX hwp hlen hbw4
   go_upto_region 13 with (first
    | (go_at_call 18; refine hP1.mono ?_; rintro _ w2 ⟨v, cs, ds, va, rfl, SH, AP, hb3⟩; obtain ⟨G1, G2, G3, G4, G5⟩ := got_box w2 #[.int .i64 0, .bool false, .slice none 0 0, .slice none 0 0, .slice none 0 0, .int .i64 0, .slice none 0 0, .int .i64 0, .slice none 0 0, .int .i64 0, .int .i64 0, .slice none 0 0, .slice none 0 0, .int .i64 0, .slice none 0 0, .slice none 0 0, .slice none 0 0, .slice none 0 0, .slice none 0 0] rfl b v (0, 0); have hF1 := hF _ _ _ _ _ _ SH AP G5; replace G3 := bko_cells G3; obtain ⟨t0, t1, t2, t3⟩ := fo_cells G2; obtain ⟨y0, y1, y2, y3⟩ := fo_cells G4; have hone := hid SH.one; have hinf : Hid ((Tryz.prog.info? 43).map (·.size) = some (cellsK b v).size) := hid infoK; have hb4 : Below w.heap.size w _ := (hbw12.trans (hb3.mono hbw12.size)).trans (G5.mono ((hbw12.trans (hb3.mono hbw12.size)).size)); dsimp only at t0 t1 y0 y1 G3 hb4 hF1; clear G4 G5 SH AP G2 hP1 hF hbw12; generalize cellsK b v = cc at *)
    | (refine wpList_store_mid rfl 43 _ _ rfl w2.heap.size 0 cc rfl rfl G1 hinf.out hone.out ?_))
   generalize ((((w2.alloc (.cells #[.int .i64 0, .bool false, .slice none 0 0, .slice none 0 0, .slice none 0 0, .int .i64 0, .slice none 0 0, .int .i64 0, .slice none 0 0, .int .i64 0, .int .i64 0, .slice none 0 0, .slice none 0 0, .int .i64 0, .slice none 0 0, .slice none 0 0, .slice none 0 0, .slice none 0 0, .slice none 0 0] 43)).alloc (.cells #[.int .i64 0, .int .i64 0] 47)).setCells w2.heap.size 0 cc.toList).setCell ⟨w2.heap.size + 1, 0, none⟩ (.int .i64 0)).setCell ⟨w2.heap.size + 1, 1, none⟩ (.int .i64 0) = Z at *
   obtain ⟨z1, o1, q1, e1, e2, rfl, fa, f1, f2, hi1, hi2⟩ := hF1
   clear G1 t0 t1 t2 t3 hb3 hone hinf G3 y1 y2 y3
   go_upto_region 16 with fail
   go_loopw [74] (fun i X => ∃ j : Nat, j ≤ k ∧ i = .int .i64 j ∧ X = Z) (fun i _ => k - (intOf i).toNat)
   case atStart => exact ⟨0, Nat.zero_le _, rfl, rfl⟩
   case round =>
    obtain ⟨j, hj, rfl, hX⟩ := hrel
    subst hX
    by_cases hjk : j < k
    ·have hjk' : (j : Int) < k := by omega
     have fj := fa j hjk
     have hbn : ¬ ((k : Int) + 5 ≤ 1 + (j : Int)) := by omega
     by_cases hjc : (j : Int) < count
     ·rw [if_pos hjc] at fj
      go_wp2_with fail
      go_roundw
      case rel => exact ⟨j + 1, by omega, by go_num, trivial⟩
      case measure => simp [intOf]; omega
     ·rw [if_neg hjc] at fj
      go_wp2_with fail
      go_roundw
      case rel => exact ⟨j + 1, by omega, by go_num, trivial⟩
      case measure => simp [intOf]; omega
    ·obtain rfl : j = k := by omega
     have hge : ¬ ((j : Int) < j) := by omega
     have hw2 : IntKind.i64.wrap ((j : Int) + 2) = (j : Int) + 2 := wrap64' (by omega) (by omega)
     have hw4 : IntKind.i64.wrap ((j : Int) + 4) = (j : Int) + 4 := wrap64' (by omega) (by omega)
     clear fa
     by_cases ea : (j : Int) < count
     ·obtain rfl := hi1.2 ea
      by_cases l1 : 1 < count
      ·obtain rfl := hi2.2 (Or.inl l1)
       clear hi1 hi2
       go_wp2_with fail
       exact bodyPost_ret (results_tmp Tryz.results17 _ _ _) rfl ⟨by first | (simp; done) | (simp; omega), hb4⟩
      ·by_cases l2 : count = 1
       ·by_cases l3 : ticks = 1
        ·obtain rfl := hi2.2 (Or.inr (Or.inr ⟨l2, l3⟩))
         clear hi1 hi2
         subst l2 l3
         go_wp2_with fail
         exact bodyPost_ret (results_tmp Tryz.results17 _ _ _) rfl ⟨by first | (simp; done) | (simp; omega), hb4⟩
        ·have hb2 : (e2 == 0) = false := by
          rw [beq_eq_false_iff_ne]
          intro h
          rcases hi2.1 h with h | h | h
          ·exact l1 h
          ·have := h.2; omega
          ·exact l3 h.2
         clear hi1 hi2
         subst l2
         go_wp2_with fail
         exact bodyPost_ret (results_tmp Tryz.results17 _ _ _) rfl ⟨by first | (simp; done) | (simp; omega), hb4⟩
       ·exfalso; omega
     ·have hb1 : (e1 == 0) = false := by
       rw [beq_eq_false_iff_ne]
       exact fun h => ea (hi1.1 h)
      by_cases l1 : 1 < count
      ·obtain rfl := hi2.2 (Or.inl l1)
       clear hi1 hi2
       go_wp2_with fail
       exact bodyPost_ret (results_tmp Tryz.results17 _ _ _) rfl ⟨by first | (simp; done) | (simp; omega), hb4⟩
      ·by_cases l2 : count = 1
       ·obtain rfl := hi2.2 (Or.inr (Or.inl ⟨l2, by omega⟩))
        clear hi1 hi2
        subst l2
        go_wp2_with fail
        exact bodyPost_ret (results_tmp Tryz.results17 _ _ _) rfl ⟨by first | (simp; done) | (simp; omega), hb4⟩
       ·have hb2 : (e2 == 0) = false := by
         rw [beq_eq_false_iff_ne]
         intro h
         rcases hi2.1 h with h | h | h
         ·exact l1 h
         ·exact l2 h.1
         ·exact l2 h.1
        clear hi1 hi2
        go_wp2_with fail
        exact bodyPost_ret (results_tmp Tryz.results17 _ _ _) rfl ⟨by first | (simp; done) | (simp; omega), hb4⟩
def dayD (n : Int) : Dd := if 0 < n then dMove 2 0 n else dMove 5 0 (-(max n (-1000000)))
theorem Got.more {b : Bank} {K M K2 M2 : Nat} {T c s has : Int} {a : Au.Au} (G : Got b K M T c s has a) (hK : K ≤ K2) (hM : M ≤ M2) : Got b K2 M2 T c s has a :=
 ⟨G.inv, G.bound.mono hK, G.down, G.time, G.auths, G.cards, G.due, G.cb, G.ob, G.db, G.out, G.way, fun i => Nat.le_trans (G.kept i) hM, fun i => by have := G.sent i; omega, Nat.le_trans G.today hK, G.card, G.shop, G.c01, G.s01⟩
theorem move_no {b : Bank} {mv n : Int} (hd : b.down = false) (ha : b.auths.length = 1) (he : Au.mvErr (b.auth 0) mv n ≠ 0) : (doB b (dMove mv 0 n)).1 = b := by
 refine doB_refused b _ ?_
 show (moveD b (dMove mv 0 n)).2 ≠ 0
 unfold moveD
 rw [if_neg (by rw [hd]; simp), if_neg (by show ¬ ((0 : Int) < 0 ∨ _ ≤ (0 : Int)); rw [ha]; omega), if_pos (show Au.mvErr (b.auth (dMove mv 0 n).n) (dMove mv 0 n).mv (dMove mv 0 n).sum ≠ 0 from he)]
 exact he
structure Dt (b : Bank) (K M : Nat) (has : Int) (a : Au.Au) : Prop where
 got : Got b K M 0 0 1 has a
 one : Dy.net 1 b.today = a.cap - a.ref
 zero : Dy.net 0 b.today = 0
 days : b.days = []
theorem Dt.step {b : Bank} {K M : Nat} {has : Int} {a : Au.Au} (D : Dt b K M has a) (hM : M ≤ 20) (hK : K ≤ 90) {mv : Int} (n : Int) (hmv : mv = 2 ∨ mv = 5) : ∃ a', Dt (doB b (dMove mv 0 n)).1 (K + 1) (M + 1) has a' := by
 have hau : b.auth 0 = a := by unfold Bank.auth; rw [D.got.auths]; rfl
 by_cases he : Au.mvErr a mv n = 0
 ·obtain ⟨e, G⟩ := D.got.step hM hK he (by omega)
  have ht : (doB b (dMove mv 0 n)).1.today = b.today ++ [⟨1, 0, mv, n⟩] := by
   rw [e]
   show b.today ++ [⟨(b.auth 0).shop, 0, mv, n⟩] = _
   rw [hau, D.got.shop]
  refine ⟨Au.step a mv n, G.more (Nat.le_refl _) (by unfold sends; split <;> omega), ?_, ?_, by rw [e]; exact D.days⟩
  ·have h1 := D.one
   unfold Dy.net at h1 ⊢
   rw [ht, Dy.sumBy_append, h1]
   rcases hmv with rfl | rfl
   ·simp [Dy.sumBy, Dy.netF, Dy.sgn, Au.step]; omega
   ·simp [Dy.sumBy, Dy.netF, Dy.sgn, Au.step]; omega
  ·have h1 := D.zero
   unfold Dy.net at h1 ⊢
   rw [ht, Dy.sumBy_append, h1]
   simp [Dy.sumBy, Dy.netF]
 ·rw [move_no D.got.down (by rw [D.got.auths]; rfl) (by rw [hau]; exact he)]
  exact ⟨a, D.got.more (by omega) (by omega), D.one, D.zero, D.days⟩
theorem Dt.all {has : Int} (l : List Int) : ∀ {b : Bank} {K M : Nat} {a : Au.Au}, Dt b K M has a → K + l.length ≤ 90 → M + l.length ≤ 20 → ∃ a', Dt (run b (l.map dayD)) (K + l.length) (M + l.length) has a' := by
 induction l with
 | nil => intro b K M a D _ _; exact ⟨a, D⟩
 | cons n r ih =>
  intro b K M a D h1 h2
  rw [List.length_cons] at h1 h2
  have h3 : ∃ a', Dt (doB b (dayD n)).1 (K + 1) (M + 1) has a' := by
   unfold dayD
   split
   ·exact D.step (by omega) (by omega) _ (Or.inl rfl)
   ·exact D.step (by omega) (by omega) _ (Or.inr rfl)
  obtain ⟨a', D'⟩ := h3
  obtain ⟨a2, D2⟩ := ih D' (by omega) (by omega)
  refine ⟨a2, ?_⟩
  rw [List.map_cons, run_cons, List.length_cons, show K + (r.length + 1) = K + 1 + r.length by omega, show M + (r.length + 1) = M + 1 + r.length by omega]
  exact D2
end Go.Proofs.YtofcnebekmjdoaaGreatDoor.Bn
