import Derived.Test.YtodkcagingnelacGreatDoorMFreeat
namespace Go.Proofs.YtodkcagingnelacGreatDoor.Bn
open Go.Proofs.YtodkcagingnelacGreatDoor
def startB (paces : List Pa) (shops : Nat) (cap : Int) : Bank :=
  { time := 0, down := false, cards := paces.map (fun p => ⟨0, 0, p, []⟩), due := List.replicate shops 0, auths := [], snd := fun _ => ⟨0, []⟩, seen := fun _ => 0, way := fun _ => []
    stand := ⟨cap, List.replicate paces.length 0, []⟩, today := [], days := [], book := [] }
theorem start_inv {paces : List Pa} {shops : Nat} {cap : Int} (h1 : paces.length ≤ 8) (h2 : shops ≤ 8) (h3 : St.Lim cap) (h4 : ∀ p ∈ paces, wrongP p = 0) : Inv (startB paces shops cap) := by
  have hc : ∀ k : Nat, k < paces.length → ((startB paces shops cap).cards.getD k zeroC).h = 0 ∧ ((startB paces shops cap).cards.getD k zeroC).m = 0 := fun k hk => by
    have : (startB paces shops cap).cards.getD k zeroC = ⟨0, 0, paces[k], []⟩ := by simp [startB, List.getD, hk]
    rw [this]; exact ⟨rfl, rfl⟩
  refine ⟨⟨by simpa [startB] using h1, by simpa [startB] using h2, ?_, by simp [startB], (fun a ha => by cases ha), ?_, St.new_right h1 h3, by simp [startB], (fun x hx => by cases hx), (fun _ => rfl), Int.le_refl _, by simp [startB], day_right⟩, ⟨?_, fun _ => Int.le_refl _, fun _ => Int.le_refl _, fun _ => by simp [startB], (fun i t ht => by cases ht), (fun t ht => by cases ht), (fun t ht => by cases ht), (fun i p hp => by cases hp), fun _ => Nat.zero_le _⟩, ⟨rfl, ?_, ?_, rfl, rfl⟩⟩
  · intro c hc
    obtain ⟨p, hp, rfl⟩ := List.mem_map.1 hc
    exact ⟨by dsimp only; omega, by dsimp only; omega, by dsimp only; omega, by dsimp only; omega, h4 p hp, rfl⟩
  · intro k hk
    exact (hc k (by simpa [startB] using hk)).1
  · intro i
    exact ⟨by simp [startB], by simp [startB], by simp [startB], fun j t h => by simp [startB] at h⟩
  · intro k hk
    rw [(hc k (by simpa [startB] using hk)).2]; rfl
  · intro k hk
    have hk : k < shops := by simpa [startB] using hk
    show Bk.getE [] _ = (List.replicate shops (0 : Int)).getD k 0
    rw [show (List.replicate shops (0 : Int)).getD k 0 = 0 by simp [List.getD, hk]]; rfl
structure Fr (b : Bank) : Prop where
  free : ∀ k : Nat, k < b.cards.length → (b.cards.getD k zeroC).h ≤ (b.cards.getD k zeroC).m
  up : b.down = false
  none : ∀ a ∈ b.auths, a.dis = 0
/-- Neither down, nor a dispute. -/
def Calm (d : Dd) : Prop := d.kind ≠ 8 ∧ ¬ (d.kind = 3 ∧ d.mv = 6)
theorem free_set {cs : List Ca} {i : Nat} {c : Ca} (hi : i < cs.length) (h : ∀ k : Nat, k < cs.length → (cs.getD k zeroC).h ≤ (cs.getD k zeroC).m) (hc : c.h ≤ c.m) : ∀ k : Nat, k < (cs.set i c).length → ((cs.set i c).getD k zeroC).h ≤ ((cs.set i c).getD k zeroC).m := by
  intro k hk
  rw [List.length_set] at hk
  rw [getD_set _ _ _ _ _ hi]
  split
  · exact hc
  · exact h k hk
theorem load_fr {b : Bank} {d : Dd} (F : Fr b) (h : (loadB b d).2 = 0) : Fr (loadB b d).1 := by
  unfold loadB at h ⊢
  split at h
  · cases h
  rename_i h1
  rw [if_neg h1]
  split at h
  · cases h
  rename_i h2
  rw [if_neg h2]
  split at h
  · rename_i h3; exact absurd h h3
  rename_i h3
  rw [if_neg h3]
  split at h
  · rename_i h4; exact absurd h h4
  rename_i h4
  rw [if_neg h4]
  obtain ⟨-, g2, -⟩ := right_of_shift (Decidable.not_not.1 h3)
  have hi : d.n.toNat < b.cards.length := by omega
  refine ⟨free_set hi F.free ?_, F.up, F.none⟩
  rw [g2]
  have := F.free _ hi
  unfold Bank.card
  dsimp only
  omega
theorem ask_fr {b : Bank} {d : Dd} (F : Fr b) (h : (askB b d).2.1 = 0) : Fr (askB b d).1 := by
  unfold askB at h ⊢
  split at h
  · cases h
  rename_i h1
  rw [if_neg h1]
  rw [if_neg (by rw [F.up]; simp)] at h ⊢
  unfold askUp at h ⊢
  split at h
  · rename_i h2; exact absurd h h2
  rename_i h2
  rw [if_neg h2]
  split at h
  · cases h
  rename_i h3
  rw [if_neg h3]
  split at h
  · rename_i h4; exact absurd h h4
  rename_i h4
  rw [if_neg h4]
  obtain ⟨n1, -⟩ := newA_zero (Decidable.not_not.1 h2)
  obtain ⟨-, -, -, c0, -, c2, c3⟩ := allow_zero (Decidable.not_not.1 h4)
  rw [n1]
  refine ⟨free_set (by omega) F.free (by rw [c2, c3]; exact c0), F.up, fun a ha => ?_⟩
  replace ha : a ∈ b.auths ++ [_] := ha
  rcases List.mem_append.1 ha with ha | ha
  · exact F.none a ha
  · obtain rfl := List.mem_singleton.1 ha; rfl
theorem step_dis {a : Au.Au} {k n : Int} (h : k ≠ 6) (h7 : k ≠ 7) (h8 : k = 1 ∨ k = 2 ∨ k = 3 ∨ k = 4 ∨ k = 5) : (Au.step a k n).dis = a.dis := by
  rcases h8 with rfl | rfl | rfl | rfl | rfl <;> simp [Au.step]
theorem step_hold {a : Au.Au} {k n : Int} (h : Au.May a k n) (h6 : k = 1 ∨ k = 2 ∨ k = 3 ∨ k = 4 ∨ k = 5) :
    Au.holdA (Au.step a k n) - Au.holdA a ≤ (if k = 1 then n else if k = 2 ∨ k = 3 then -n else 0) := by
  obtain ⟨-, f, -, -, h3, -, hs, hr⟩ := h
  have f1 := f.1
  unfold Au.room at hr
  rcases h6 with rfl | rfl | rfl | rfl | rfl
  · have hs := hs (by omega)
    simp [Au.step, Au.holdA, hs]
    omega
  · have hs := hs (by omega)
    simp [Au.step, Au.holdA, hs] at hr ⊢
    split <;> omega
  · have hs := hs (by omega)
    simp [Au.step, Au.holdA, hs] at hr ⊢
    omega
  · have hs := hs (by omega)
    simp [Au.step, Au.holdA, hs] at hr ⊢
    split <;> omega
  · simp [Au.step, Au.holdA]
theorem move_fr {b : Bank} {d : Dd} (I : Inv b) (F : Fr b) (h6 : d.mv ≠ 6) (h : (moveD b d).2 = 0) : Fr (moveD b d).1 := by
  unfold moveD at h ⊢
  split at h
  · cases h
  rename_i q1
  rw [if_neg q1]
  split at h
  · cases h
  rename_i q2
  rw [if_neg q2]
  split at h
  · rename_i q; exact absurd h q
  rename_i q3
  rw [if_neg q3]
  split at h
  · cases h
  rename_i q4
  rw [if_neg q4]
  split at h
  · rename_i q; exact absurd h q
  rename_i q5
  rw [if_neg q5]
  split at h
  · rename_i q; exact absurd h q
  rename_i q6
  rw [if_neg q6]
  split at h
  · rename_i q; exact absurd h q
  rename_i q7
  rw [if_neg q7]
  split at h
  · cases h
  rename_i q8
  rw [if_neg q8]
  replace q3 := Au.mvErr_zero.1 (Decidable.not_not.1 q3)
  obtain ⟨-, g2, -⟩ := right_of_shift (Decidable.not_not.1 q5)
  have hn : d.n.toNat < b.auths.length := by omega
  have hdis : (b.auth d.n).dis = 0 := F.none _ (getD_mem' _ hn)
  obtain ⟨r1, r2, r3, r4⟩ := I.held.auth (k := d.n) (by omega) (by omega)
  have hc0 : 0 ≤ (b.auth d.n).card := r1.2.2.2.2.1.1
  have k1 := q3.2.2.1
  have k2 := q3.2.2.2.1
  have n1 := q3.2.2.2.2.1
  have hk : (b.auth d.n).card.toNat < b.cards.length := by omega
  have hkk : d.mv = 1 ∨ d.mv = 2 ∨ d.mv = 3 ∨ d.mv = 4 ∨ d.mv = 5 := by
    have h78 : ¬ (d.mv = 7 ∨ d.mv = 8) := fun h78 => by
      have hr := q3.2.2.2.2.2.2.2
      unfold Au.room at hr
      rw [if_neg (by omega), if_neg (by omega), if_neg (by omega)] at hr
      omega
    omega
  have hh := step_hold q3 hkk
  have hfr := F.free _ hk
  refine ⟨free_set hk F.free ?_, F.up, fun a ha => ?_⟩
  · show ((cardAft b d).1).h ≤ ((cardAft b d).1).m
    have hcc : (cardAft b d).1 = ⟨(b.card (b.auth d.n).card).m + cardBy d.mv d.sum, (b.card (b.auth d.n).card).h + (Au.holdA (aft b d) - Au.holdA (b.auth d.n)), (b.card (b.auth d.n).card).p, (b.card (b.auth d.n).card).u⟩ := g2
    rw [hcc]
    dsimp only
    have h1 : Au.holdA (aft b d) - Au.holdA (b.auth d.n) ≤ _ := hh
    have h2 : (b.card (b.auth d.n).card).h ≤ (b.card (b.auth d.n).card).m := hfr
    unfold cardBy
    rcases hkk with e | e | e | e | e <;> rw [e] at h1 q4 ⊢ <;> simp at h1 q4 ⊢ <;> omega
  · rcases mem_set' ha with rfl | ha
    · show (Au.step (b.auth d.n) d.mv d.sum).dis = 0
      rw [step_dis h6 (by omega) hkk]; exact hdis
    · exact F.none a ha
theorem late_less (time : Int) {a : Au.Au} (h1 : Au.Rng a) (h2 : Au.Fit a) (k : Nat) : lateBy time k a ≤ 0 := by
  unfold lateBy
  split
  · have := hold_small h1 h2
    unfold Au.holdA Au.lateA at *
    dsimp only
    cases a.shut
    · simp at this ⊢
      split <;> omega
    · simp
  · omega
theorem sum_less {α : Type} {f : α → Int} {l : List α} (h : ∀ x ∈ l, f x ≤ 0) : sumOn f l ≤ 0 := by
  induction l with
  | nil => exact Int.le_refl _
  | cons x r ih =>
    have h1 := h x List.mem_cons_self
    have h2 := ih fun y hy => h y (List.mem_cons_of_mem _ hy)
    simp only [sumOn]; omega
theorem tick_fr {b : Bank} {d : Dd} (I : Inv b) (F : Fr b) (h : (tickB b d).2 = 0) : Fr (tickB b d).1 := by
  unfold tickB at h ⊢
  split at h
  · cases h
  rename_i h1
  rw [if_neg h1, if_neg (by rw [F.up]; simp)]
  obtain ⟨l1, l2⟩ := fold_late (b.time + d.sum) b.auths b.cards fun a ha => ⟨(I.held.auths a ha).1.2.2.2.2.1.1, (I.held.auths a ha).2.2.1⟩
  refine ⟨fun k hk => ?_, F.up, fun a ha => ?_⟩
  · replace hk : k < (b.auths.foldl (lateC (b.time + d.sum)) b.cards).length := hk
    rw [l1] at hk
    show ((b.auths.foldl (lateC (b.time + d.sum)) b.cards).getD k zeroC).h ≤ ((b.auths.foldl (lateC (b.time + d.sum)) b.cards).getD k zeroC).m
    rw [l2 k hk]
    dsimp only
    have := F.free k hk
    have := sum_less (f := lateBy (b.time + d.sum) k) (l := b.auths) fun a ha => late_less _ (I.held.auths a ha).1 (I.held.auths a ha).2.1 k
    omega
  · obtain ⟨x, hx, rfl⟩ := List.mem_map.1 (show a ∈ b.auths.map _ from ha)
    exact F.none x hx
theorem arrive_fr {b : Bank} {d : Dd} {lost : Bool} (I : Inv b) (F : Fr b) (h : (arriveB b d lost).2 = 0) : Fr (arriveB b d lost).1 := by
  have hg : ∀ i, Fr (gone b i) := fun _ => ⟨F.free, F.up, F.none⟩
  unfold arriveB at h ⊢
  by_cases h1 : d.n < 0 ∨ 1 < d.n
  · rw [if_pos h1] at h; cases h
  rw [if_neg h1] at h ⊢
  generalize sideOf d.n = i at *
  cases hw : b.way i with
  | nil => rw [hw] at h; cases h
  | cons p r =>
    rw [hw] at h
    dsimp only at h ⊢
    cases lost with
    | true => rw [if_pos rfl]; exact hg i
    | false =>
      rw [if_neg (by simp)] at h ⊢
      have hp := I.sent.ways i p (by rw [hw]; exact List.mem_cons_self)
      unfold arriveAt at h ⊢
      by_cases h2 : 0 ≤ p.seen
      · rw [if_pos h2] at h ⊢
        split at h
        · rename_i h3; exact absurd h h3
        rename_i h3
        rw [if_neg h3]
        exact ⟨F.free, F.up, F.none⟩
      · rw [if_neg h2] at h ⊢
        by_cases h3 : p.t.n ≠ b.seen i + 1 ∨ 1000000 ≤ b.seen i
        · rw [if_pos h3]; exact hg i
        · rw [if_neg h3] at h ⊢
          have ht : p.t ∈ (b.snd (!i)).kept := by
            rcases hp with ⟨-, g1 | g1⟩ | ⟨g1, -⟩
            · omega
            · exact g1
            · omega
          obtain ⟨-, hfar, -, -⟩ := right_mem (I.sent.right (!i)) ht
          unfold Po.far at hfar
          have ha1 := I.sent.auths (!i) p.t ht
          obtain ⟨r1, r2, r3, r4⟩ := I.held.auth (k := p.t.a) (by omega) ha1
          have hc0 : 0 ≤ (b.auth p.t.a).card := r1.2.2.2.2.1.1
          unfold comes at h ⊢
          by_cases k1 : p.t.k = 1
          · rw [if_pos k1] at h ⊢
            split at h
            · rename_i q; exact absurd h q
            rename_i q
            rw [if_neg q]
            exact ⟨F.free, F.up, F.none⟩
          rw [if_neg k1] at h ⊢
          by_cases k2 : p.t.k = 2
          · rw [if_pos k2] at h ⊢
            split at h
            · rename_i q; exact absurd h q
            rename_i q
            rw [if_neg q]
            split at h
            · rename_i q2; exact absurd h q2
            rename_i q2
            rw [if_neg q2]
            obtain ⟨-, g2, -⟩ := right_of_shift (Decidable.not_not.1 q)
            have hk : (b.auth p.t.a).card.toNat < b.cards.length := by omega
            refine ⟨free_set hk F.free ?_, F.up, F.none⟩
            rw [g2]
            have := F.free _ hk
            unfold Bank.card
            dsimp only
            omega
          rw [if_neg k2] at h ⊢
          by_cases k3 : p.t.k = 3
          · rw [if_pos k3] at h ⊢
            split at h
            · rename_i q; exact absurd h q
            rename_i q
            rw [if_neg q]
            exact ⟨F.free, F.up, F.none⟩
          rw [if_neg k3]
          exact ⟨F.free, F.up, F.none⟩
theorem do_fr {b : Bank} {d : Dd} (I : Inv b) (F : Fr b) (hd : Calm d) : Fr (doB b d).1 := by
  by_cases h : (doB b d).2.1 = 0
  case neg => rw [doB_refused b d h]; exact F
  unfold doB at h ⊢
  split at h
  · rename_i e; rw [if_pos e]; exact load_fr F h
  rename_i e; rw [if_neg e]
  split at h
  · rename_i e; rw [if_pos e]; exact ask_fr F h
  rename_i e; rw [if_neg e]
  split at h
  · rename_i e; rw [if_pos e]; exact move_fr I F (fun h6 => hd.2 ⟨e, h6⟩) h
  rename_i e; rw [if_neg e]
  split at h
  · rename_i e; rw [if_pos e]; exact tick_fr I F h
  rename_i e; rw [if_neg e]
  split at h
  · rename_i e; rw [if_pos e]
    unfold sendB at h ⊢
    show Fr (if _ then _ else _ : Bank × Int).1
    split
    · exact F
    · split
      · exact F
      · exact ⟨F.free, F.up, F.none⟩
  rename_i e; rw [if_neg e]
  split at h
  · rename_i e; rw [if_pos e]; exact arrive_fr I F h
  rename_i e; rw [if_neg e]
  split at h
  · rename_i e; rw [if_pos e]; exact arrive_fr I F h
  rename_i e; rw [if_neg e]
  split at h
  · rename_i e; exact absurd e hd.1
  rename_i e; rw [if_neg e]
  split at h
  · rename_i e; rw [if_pos e]
    have : upB b = (b, 8) := by unfold upB; rw [if_neg (by rw [F.up]; simp)]
    show Fr (upB b).1
    rw [this]; exact F
  rename_i e; rw [if_neg e]
  split at h
  · rename_i e; rw [if_pos e]; exact ⟨F.free, F.up, F.none⟩
  rename_i e; rw [if_neg e]
  split at h
  · rename_i e; rw [if_pos e]
    unfold payB
    show Fr (if _ then _ else _ : Bank × Int).1
    split
    · exact F
    · split
      · exact F
      · split
        · exact F
        · exact ⟨F.free, F.up, F.none⟩
  rename_i e; rw [if_neg e]; exact F
theorem play_fr {b : Bank} (I : Inv b) (F : Fr b) (l : List Dd) (hl : ∀ d ∈ l, Calm d) : Fr (playL b l).1 := by
  have key : ∀ (l : List Dd) (s : Bank × List (Dd × An)), Inv s.1 → Fr s.1 → (∀ d ∈ l, Calm d) → Fr (l.foldl play1 s).1 := by
    intro l
    induction l with
    | nil => intro s _ h _; exact h
    | cons d r ih =>
      intro s hI hF hl
      refine ih _ (play1_inv hI d) ?_ fun x hx => hl x (List.mem_cons_of_mem _ hx)
      unfold play1
      split
      · exact hF
      · exact do_fr hI hF (hl d List.mem_cons_self)
  exact key l (b, []) I F hl
theorem start_fr (paces : List Pa) (shops : Nat) (cap : Int) : Fr (startB paces shops cap) := by
  refine ⟨fun k hk => ?_, rfl, fun a ha => by cases ha⟩
  have hk : k < paces.length := by simpa [startB] using hk
  have : (startB paces shops cap).cards.getD k zeroC = ⟨0, 0, paces[k], []⟩ := by simp [startB, List.getD, hk]
  rw [this]; exact Int.le_refl _
theorem told_append (id : Int) (L M : List (Dd × An)) : told id (L ++ M) = match told id L with | some a => some a | none => told id M := by
  induction L with
  | nil => rfl
  | cons x r ih =>
    simp only [List.cons_append, told]
    split
    · rfl
    · exact ih
theorem play1_log (s : Bank × List (Dd × An)) (d : Dd) : (play1 s d).2.map (·.1) = s.2.map (·.1) ++ [d] := by
  unfold play1; split <;> simp
theorem playL_log (b : Bank) (l : List Dd) : (playL b l).2.map (·.1) = l := by
  have key : ∀ (l : List Dd) (s : Bank × List (Dd × An)), (l.foldl play1 s).2.map (·.1) = s.2.map (·.1) ++ l := by
    intro l
    induction l with
    | nil => intro s; simp
    | cons d r ih => intro s; rw [List.foldl_cons, ih, play1_log]; simp
  exact key l (b, [])
end Go.Proofs.YtodkcagingnelacGreatDoor.Bn
namespace Go.Proofs.YtodkcagingnelacGreatDoor.Bn
open Go.Proofs.YtodkcagingnelacGreatDoor
def Stays (b x : Bank) : Prop := b.auths.length ≤ x.auths.length ∧ ∀ n : Nat, n < b.auths.length → (x.auths.getD n zA).shop = (b.auths.getD n zA).shop
theorem stays_refl (b : Bank) : Stays b b := ⟨Nat.le_refl _, fun _ _ => rfl⟩
theorem stays_same {b x : Bank} (h : x.auths = b.auths) : Stays b x := by unfold Stays; rw [h]; exact ⟨Nat.le_refl _, fun _ _ => rfl⟩
theorem Stays.trans {a b c : Bank} (h1 : Stays a b) (h2 : Stays b c) : Stays a c :=
  ⟨Nat.le_trans h1.1 h2.1, fun n hn => (h2.2 n (Nat.lt_of_lt_of_le hn h1.1)).trans (h1.2 n hn)⟩
theorem stays_append {b x : Bank} {l : List Au.Au} (h : x.auths = b.auths ++ l) : Stays b x := by
  unfold Stays
  rw [h]
  refine ⟨by simp, fun n hn => ?_⟩
  simp [List.getD, List.getElem?_append_left hn]
theorem step_shop (a : Au.Au) (k n : Int) : (Au.step a k n).shop = a.shop := by
  unfold Au.step
  repeat' split
  all_goals rfl
theorem stays_set {b x : Bank} {i : Nat} {k n : Int} (hi : i < b.auths.length) (h : x.auths = b.auths.set i (Au.step (b.auths.getD i zA) k n)) : Stays b x := by
  unfold Stays
  rw [h]
  refine ⟨by simp, fun j hj => ?_⟩
  rw [getD_set _ _ _ _ _ hi]
  split
  · rename_i e; subst e; exact step_shop _ _ _
  · rfl
theorem stays_shut (b : Bank) : Stays b (shutB b) := by
  refine ⟨by simp [shutB], fun n hn => ?_⟩
  show ((b.auths.map fun a => Au.lateA a b.time).getD n zA).shop = _
  simp [List.getD, hn, Au.lateA]
/-- What of the day's records changes: of all that is done, what becomes of a permission, and a day's end. -/
structure Quiet (b x : Bank) : Prop where
  stays : Stays b x
  today : x.today = b.today
  days : x.days = b.days
theorem quiet_refl (b : Bank) : Quiet b b := ⟨stays_refl b, rfl, rfl⟩
theorem quiet_ite {b : Bank} {c : Prop} [Decidable c] {x y : Bank × Int} (h1 : Quiet b x.1) (h2 : Quiet b y.1) : Quiet b (if c then x else y).1 := by
  split
  · exact h1
  · exact h2
theorem quiet_ite3 {b : Bank} {c : Prop} [Decidable c] {x y : Bank × Int × Int} (h1 : Quiet b x.1) (h2 : Quiet b y.1) : Quiet b (if c then x else y).1 := by
  split
  · exact h1
  · exact h2
theorem load_quiet (b : Bank) (d : Dd) : Quiet b (loadB b d).1 :=
  quiet_ite (quiet_refl b) (quiet_ite (quiet_refl b) (quiet_ite (quiet_refl b) (quiet_ite (quiet_refl b) ⟨stays_same rfl, rfl, rfl⟩)))
theorem ask_quiet (b : Bank) (d : Dd) : Quiet b (askB b d).1 := by
  unfold askB askDown askUp
  exact quiet_ite3 (quiet_refl b) (quiet_ite3 (quiet_ite3 (quiet_refl b) (quiet_ite3 (quiet_refl b) ⟨stays_same rfl, rfl, rfl⟩)) (quiet_ite3 (quiet_refl b) (quiet_ite3 (quiet_refl b) (quiet_ite3 (quiet_refl b) ⟨stays_append rfl, rfl, rfl⟩))))
theorem tick_quiet (b : Bank) (d : Dd) : Quiet b (tickB b d).1 := by
  unfold tickB
  refine quiet_ite (quiet_refl b) (quiet_ite ⟨stays_same rfl, rfl, rfl⟩ ⟨?_, rfl, rfl⟩)
  exact (stays_same (b := b) (x := { b with time := b.time + d.sum }) rfl).trans (stays_shut _)
theorem send_quiet (b : Bank) (d : Dd) : Quiet b (sendB b d).1 :=
  quiet_ite (quiet_refl b) (quiet_ite (quiet_refl b) ⟨stays_same rfl, rfl, rfl⟩)
theorem arrive_quiet (b : Bank) (d : Dd) (lost : Bool) : Quiet b (arriveB b d lost).1 := by
  unfold arriveB
  refine quiet_ite (quiet_refl b) ?_
  split
  · exact quiet_refl b
  · refine quiet_ite ⟨stays_same rfl, rfl, rfl⟩ ?_
    unfold arriveAt
    refine quiet_ite (quiet_ite (quiet_refl b) ⟨stays_same rfl, rfl, rfl⟩) (quiet_ite ⟨stays_same rfl, rfl, rfl⟩ ?_)
    unfold comes
    exact quiet_ite (quiet_ite (quiet_refl b) ⟨stays_same rfl, rfl, rfl⟩) (quiet_ite (quiet_ite (quiet_refl b) (quiet_ite (quiet_refl b) ⟨stays_same rfl, rfl, rfl⟩)) (quiet_ite (quiet_ite (quiet_refl b) ⟨stays_same rfl, rfl, rfl⟩) ⟨stays_same rfl, rfl, rfl⟩))
theorem down_quiet (b : Bank) : Quiet b (downB b).1 := quiet_ite (quiet_refl b) ⟨stays_same rfl, rfl, rfl⟩
theorem up_quiet (b : Bank) : Quiet b (upB b).1 := by
  unfold upB
  refine quiet_ite ⟨?_, rfl, rfl⟩ (quiet_refl b)
  exact (stays_append (b := b) (x := { b with cards := b.stand.adv.foldl forceL b.cards, auths := b.auths ++ b.stand.adv.map advA, down := false, stand := ⟨b.stand.cap, List.replicate b.cards.length 0, []⟩ }) rfl).trans (stays_shut _)
theorem pay_quiet (b : Bank) (d : Dd) : Quiet b (payB b d).1 :=
  quiet_ite (quiet_refl b) (quiet_ite (quiet_refl b) (quiet_ite (quiet_refl b) ⟨stays_same rfl, rfl, rfl⟩))
theorem do_quiet {b : Bank} {d : Dd} (h3 : d.kind ≠ 3) (h10 : d.kind ≠ 10) : Quiet b (doB b d).1 := by
  unfold doB
  refine quiet_ite3 (load_quiet b d) (quiet_ite3 (ask_quiet b d) ?_)
  rw [if_neg h3]
  refine quiet_ite3 (tick_quiet b d) (quiet_ite3 (send_quiet b d) (quiet_ite3 (arrive_quiet b d false) (quiet_ite3 (arrive_quiet b d true) (quiet_ite3 (down_quiet b) (quiet_ite3 (up_quiet b) ?_)))))
  rw [if_neg h10]
  exact quiet_ite3 (pay_quiet b d) (quiet_refl b)
/-- What becomes of a permission is told. -/
theorem do_move {b : Bank} {d : Dd} (h3 : d.kind = 3) (h : (doB b d).2.1 = 0) : 0 ≤ d.n ∧ d.n < b.auths.length ∧ Stays b (doB b d).1 ∧ (doB b d).1.today = b.today ++ [⟨(b.auth d.n).shop, d.n, d.mv, d.sum⟩] ∧ (doB b d).1.days = b.days := by
  have e : doB b d = two (moveD b d) := by
    unfold doB
    rw [if_neg (by omega), if_neg (by omega), if_pos h3]
  rw [e] at h ⊢
  unfold two at h ⊢
  dsimp only at h ⊢
  unfold moveD at h ⊢
  split at h
  · cases h
  rename_i q1
  rw [if_neg q1]
  split at h
  · cases h
  rename_i q2
  rw [if_neg q2]
  split at h
  · rename_i q; exact absurd h q
  rename_i q3
  rw [if_neg q3]
  split at h
  · cases h
  rename_i q4
  rw [if_neg q4]
  split at h
  · rename_i q; exact absurd h q
  rename_i q5
  rw [if_neg q5]
  split at h
  · rename_i q; exact absurd h q
  rename_i q6
  rw [if_neg q6]
  split at h
  · rename_i q; exact absurd h q
  rename_i q7
  rw [if_neg q7]
  split at h
  · cases h
  rename_i q8
  rw [if_neg q8]
  exact ⟨by omega, by omega, stays_set (by omega) rfl, rfl, rfl⟩
theorem do_day {b : Bank} {d : Dd} (h10 : d.kind = 10) : doB b d = ((dayB b).1, 0, 0) := by
  unfold doB
  rw [if_neg (by omega), if_neg (by omega), if_neg (by omega), if_neg (by omega), if_neg (by omega), if_neg (by omega), if_neg (by omega), if_neg (by omega), if_neg (by omega), if_pos h10]
  rfl
structure Ds where
  had : List Int
  today : List Dy.Rc
  days : List (List Dy.Rc)
end Go.Proofs.YtodkcagingnelacGreatDoor.Bn
