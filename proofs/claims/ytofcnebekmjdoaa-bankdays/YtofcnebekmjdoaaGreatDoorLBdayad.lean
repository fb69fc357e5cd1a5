import Derived.Test.YtofcnebekmjdoaaGreatDoorLBdayac
set_option maxHeartbeats 4000000
set_option maxRecDepth 100000
namespace Go.Proofs.YtofcnebekmjdoaaGreatDoor.Bn
open Go.Proofs.YtofcnebekmjdoaaGreatDoor
theorem log_len (b : Bank) (l : List Dd) : (playL b l).2.length = l.length := by
 have := congrArg List.length (playL_log b l)
 rwa [List.length_map] at this
theorem told_at (b : Bank) (l : List Dd) {i : Nat} (hi : i < l.length) (h0 : (l.getD i zD).id ≠ 0) : told (l.getD i zD).id (playL b l).2 = some (((playL b l).2.map (·.2)).getD i (0, 0)) := by
 have hi' : i < (playL b l).2.length := by rw [log_len]; exact hi
 have h1 : ((playL b l).2[i]).1 = l.getD i zD := by
  have : ((playL b l).2.map (·.1))[i]? = l[i]? := by rw [playL_log]
  rw [List.getElem?_map, List.getElem?_eq_getElem hi', List.getElem?_eq_getElem hi] at this
  simpa [List.getD, hi] using this
 have := first_playL b l ((playL b l).2[i]) (List.getElem_mem hi') (by rw [h1]; exact h0)
 rw [h1] at this
 rw [this]
 simp [List.getD, hi']
structure Sd (m all : List Dd) : Prop where
 ids : ∀ j, j < m.length → (m.getD j zD).id = (j : Int) + 1
 like : ∀ b, Alike (playL b m) (playL b all)
 mem : ∀ i, i < all.length → ∃ j, j < m.length ∧ all.getD i zD = m.getD j zD
theorem getD_snoc {l : List Dd} {d : Dd} {i : Nat} : (l ++ [d]).getD i zD = if i < l.length then l.getD i zD else if i = l.length then d else zD := by
 by_cases h : i < l.length
 ·rw [if_pos h, List.getD_eq_getElem?_getD, List.getElem?_append_left h, List.getD_eq_getElem?_getD]
 ·rw [if_neg h]
  by_cases h2 : i = l.length
  ·rw [if_pos h2, h2]; simp [List.getD]
  ·rw [if_neg h2]
   have : (l ++ [d])[i]? = none := by rw [List.getElem?_eq_none_iff]; simp; omega
   simp [List.getD, this]
theorem Sd.again {m all : List Dd} (S : Sd m all) {k : Nat} (hk : k < m.length) : Sd m (all ++ [m.getD k zD]) := by
 have h0 : (m.getD k zD).id ≠ 0 := by rw [S.ids k hk]; omega
 refine ⟨S.ids, fun b => ?_, fun i hi => ?_⟩
 ·rw [playL_snoc]
  refine (S.like b).again h0 (a := ((playL b m).2.map (·.2)).getD k (0, 0)) ?_
  rw [← (S.like b).told _ h0]
  exact told_at b m hk h0
 ·rw [List.length_append, List.length_singleton] at hi
  rw [getD_snoc]
  split
  ·rename_i h; exact S.mem i h
  ·rw [if_pos (by omega)]; exact ⟨k, hk, rfl⟩
theorem do_stays {b : Bank} (d : Dd) : Stays b (doB b d).1 := by
 by_cases h3 : d.kind = 3
 ·by_cases he : (doB b d).2.1 = 0
  ·exact (do_move h3 he).2.2.1
  ·rw [doB_refused b d he]; exact stays_refl b
 ·by_cases h10 : d.kind = 10
  ·rw [do_day h10]; exact stays_same rfl
  ·exact (do_quiet h3 h10).stays
theorem play1_stays (s : Bank × List (Dd × An)) (d : Dd) : Stays s.1 (play1 s d).1 := by
 unfold play1
 split
 ·exact stays_refl _
 ·exact do_stays d
theorem fold_stays (r : List Dd) : ∀ s : Bank × List (Dd × An), Stays s.1 (r.foldl play1 s).1 := by
 induction r with
 | nil => intro s; exact stays_refl _
 | cons d r ih => intro s; exact (play1_stays s d).trans (ih _)
theorem play1_more (s : Bank × List (Dd × An)) (d : Dd) : ∃ x, (play1 s d).2 = s.2 ++ [x] := by
 unfold play1
 split
 ·exact ⟨_, rfl⟩
 ·exact ⟨_, rfl⟩
theorem fold_log (r : List Dd) : ∀ s : Bank × List (Dd × An), ∃ t, (r.foldl play1 s).2 = s.2 ++ t := by
 induction r with
 | nil => intro s; exact ⟨[], by simp⟩
 | cons d r ih =>
  intro s
  obtain ⟨x, hx⟩ := play1_more s d
  obtain ⟨t, ht⟩ := ih (play1 s d)
  exact ⟨x :: t, by rw [List.foldl_cons, ht, hx]; simp⟩
theorem playL_at (b : Bank) (l : List Dd) (i : Nat) : playL b l = (l.drop i).foldl play1 (playL b (l.take i)) := by
 unfold playL
 rw [← List.foldl_append, List.take_append_drop]
theorem log_take (b : Bank) (l : List Dd) {i : Nat} (hi : i ≤ l.length) : (playL b l).2.take i = (playL b (l.take i)).2 := by
 obtain ⟨t, ht⟩ := fold_log (l.drop i) (playL b (l.take i))
 have hn : (playL b (l.take i)).2.length = i := by rw [log_len, List.length_take]; omega
 rw [playL_at b l i, ht]
 exact List.take_left' hn
def ans (b : Bank) (l : List Dd) (i : Nat) : An := ((playL b l).2.map (·.2)).getD i (0, 0)
theorem log_at (b : Bank) (l : List Dd) {i : Nat} (hi : i < l.length) : (playL b l).2[i]? = some (l.getD i zD, ans b l i) := by
 have hi' : i < (playL b l).2.length := by rw [log_len]; exact hi
 have h1 : ((playL b l).2[i]).1 = l.getD i zD := by
  have : ((playL b l).2.map (·.1))[i]? = l[i]? := by rw [playL_log]
  rw [List.getElem?_map, List.getElem?_eq_getElem hi', List.getElem?_eq_getElem hi] at this
  simpa [List.getD, hi] using this
 rw [List.getElem?_eq_getElem hi', ← h1]
 unfold ans
 simp [List.getD, hi']
theorem told_mem {id : Int} {L : List (Dd × An)} : told id L ≠ none ↔ id ∈ L.map (·.1.id) := by
 induction L with
 | nil => simp [told]
 | cons x r ih =>
  simp only [told, List.map_cons, List.mem_cons]
  split
  ·rename_i h; simp [h]
  ·rename_i h
   rw [ih]
   constructor
   ·exact Or.inr
   ·rintro (e | e)
    ·exact absurd e.symm h
    ·exact e
def ids (l : List Dd) (i : Nat) : List Int := (l.take i).map (·.id)
theorem told_ids (b : Bank) (l : List Dd) (i : Nat) (id : Int) : told id (playL b (l.take i)).2 ≠ none ↔ id ∈ ids l i := by
 rw [told_mem]
 unfold ids
 have : (playL b (l.take i)).2.map (fun x => x.1.id) = ((playL b (l.take i)).2.map (·.1)).map (·.id) := by rw [List.map_map]; rfl
 rw [this, playL_log]
theorem ids_next {l : List Dd} {i : Nat} (hi : i < l.length) : ids l (i + 1) = ids l i ++ [(l.getD i zD).id] := by
 unfold ids
 rw [take_snoc l hi]; simp
theorem ans_new (b : Bank) (l : List Dd) {i : Nat} (hi : i < l.length) (hn : (l.getD i zD).id = 0 ∨ (l.getD i zD).id ∉ ids l i) : ans b l i = (doB (playL b (l.take i)).1 (l.getD i zD)).2 := by
 have h1 := log_take b l (i := i + 1) (by omega)
 rw [take_snoc l hi, playL_snoc] at h1
 have h2 : (if (l.getD i zD).id = 0 then none else told (l.getD i zD).id (playL b (l.take i)).2) = none := by
  split
  ·rfl
  ·rename_i h0
   rcases hn with h | h
   ·exact absurd h h0
   ·rw [← told_ids b] at h; simpa using h
 unfold play1 at h1
 rw [h2] at h1
 dsimp only at h1
 have h3 : ((playL b l).2.take (i + 1))[i]? = some (l.getD i zD, ans b l i) := by
  rw [List.getElem?_take, if_pos (by omega)]; exact log_at b l hi
 rw [h1] at h3
 have hl : (playL b (l.take i)).2.length = i := by rw [log_len, List.length_take]; omega
 rw [List.getElem?_append_right (by omega), hl, Nat.sub_self] at h3
 have := congrArg Prod.snd (Option.some.inj h3)
 exact this.symm
def shopF (b : Bank) (n : Int) : Int := (b.auths.getD n.toNat zA).shop
def dsAt (b : Bank) (l : List Dd) (i : Nat) : Ds := dayAll (shopF (playL b l).1) ((playL b l).2.take i)
theorem ds_step (b : Bank) (l : List Dd) {i : Nat} (hi : i < l.length) : dsAt b l (i + 1) = dayStep (shopF (playL b l).1) (dsAt b l i) (l.getD i zD, ans b l i) := by
 unfold dsAt
 rw [List.take_add_one, log_at b l hi]
 exact dayAll_snoc _ _ _
theorem shop_ok (b : Bank) (l : List Dd) (i : Nat) : ∀ n : Nat, n < (playL b (l.take i)).1.auths.length → shopF (playL b l).1 n = ((playL b (l.take i)).1.auths.getD n zA).shop := fun n hn => by
 have := (fold_stays (l.drop i) (playL b (l.take i))).2 n hn
 rw [← playL_at] at this
 unfold shopF
 simpa using this
theorem ds_had {b : Bank} (I : Inv b) (h1 : b.today = []) (h2 : b.days = []) {l : List Dd} {i : Nat} (hi : i ≤ l.length) {id : Int} (h0 : id ≠ 0) : id ∈ (dsAt b l i).had ↔ id ∈ ids l i := by
 unfold dsAt
 rw [log_take b l hi, ((days_play I h1 h2 (l.take i)).all _ (shop_ok b l i)).1 id h0, told_ids]
theorem ds_move {b : Bank} {l : List Dd} {i : Nat} (hi : i < l.length) (hn : (l.getD i zD).id = 0 ∨ (l.getD i zD).id ∉ ids l i) (he : (ans b l i).1 = 0) (hk : (l.getD i zD).kind = 3) : 0 ≤ (l.getD i zD).n ∧ (l.getD i zD).n < (playL b l).1.auths.length := by
 rw [ans_new b l hi hn] at he
 obtain ⟨a1, a2, -⟩ := do_move hk he
 have := (fold_stays (l.drop i) (playL b (l.take i))).1
 rw [← playL_at] at this
 exact ⟨a1, by omega⟩
theorem ds_end {b : Bank} (I : Inv b) (h1 : b.today = []) (h2 : b.days = []) (l : List Dd) : (dsAt b l l.length).today = (playL b l).1.today ∧ (playL b l).1.days = (dsAt b l l.length).days.map Dy.fileB ∧ ∀ t ∈ (dsAt b l l.length).days, Dy.Right t := by
 have := (days_play I h1 h2 l).all (shopF (playL b l).1) (by have := shop_ok b l l.length; rwa [List.take_length] at this)
 unfold dsAt
 rw [List.take_of_length_le (by rw [log_len]; exact Nat.le_refl _)]
 exact this.2
theorem ds_day {b : Bank} (I : Inv b) (h1 : b.today = []) (h2 : b.days = []) {l : List Dd} {i : Nat} (hi : i < l.length) (hn : ¬ ((l.getD i zD).id ≠ 0 ∧ (l.getD i zD).id ∈ (dsAt b l i).had)) (he : (ans b l i).1 = 0) (hk : (l.getD i zD).kind = 10) :
  (playL b l).1.days[(dsAt b l i).days.length]? = some (Dy.fileB (dsAt b l i).today) ∧ Dy.Right (dsAt b l i).today := by
 have hs := ds_step b l hi
 unfold dayStep at hs
 rw [if_neg hn, if_neg (by simpa using he), if_neg (by show ¬ ((l.getD i zD).kind = 3); omega), if_pos hk] at hs
 obtain ⟨m, hm⟩ := dayAll_take (shopF (playL b l).1) ((playL b l).2.take l.length) (i + 1)
 rw [List.take_take, show min (i + 1) l.length = i + 1 by omega] at hm
 have hm' : (dsAt b l l.length).days = (dsAt b l (i + 1)).days ++ m := hm
 rw [hs] at hm'
 dsimp only at hm'
 obtain ⟨-, e2, e3⟩ := ds_end I h1 h2 l
 rw [hm'] at e2 e3
 refine ⟨?_, e3 _ (by simp)⟩
 rw [e2]
 simp
theorem ds_small (b : Bank) (l : List Dd) : ∀ i, i ≤ l.length → (dsAt b l i).today.length ≤ i ∧ (dsAt b l i).days.length ≤ i := by
 intro i
 induction i with
 | zero => intro _; unfold dsAt dayAll; simp
 | succ i ih =>
  intro hi
  have h := ih (by omega)
  rw [ds_step b l (by omega)]
  unfold dayStep
  repeat' split
  all_goals (try simp only [List.length_append, List.length_singleton, List.length_nil]) <;> omega
end Go.Proofs.YtofcnebekmjdoaaGreatDoor.Bn
