import Derived.Test.YtofcnebekmjdoaaGreatDoorLOnceab
set_option maxHeartbeats 4000000
set_option maxRecDepth 100000
namespace Go.Proofs.YtofcnebekmjdoaaGreatDoor.Bn
open Go.Proofs.YtofcnebekmjdoaaGreatDoor
theorem log_len (b : Bank) (l : List Dd) : (playL b l).2.length = l.length := by
 have := congrArg List.length (playL_log b l)
 rwa [List.length_map] at this
theorem told_at (b : Bank) (l : List Dd) {i : Nat} (hi : i < l.length) (h0 : (l.getD i zD).id ≠ 0) : told (l.getD i zD).id (playL b l).2 = some (((playL b l).2.map (·.2)).getD i (0, 0)) := by
 have hi' : i < (playL b l).2.length := by rw [log_len]; exact hi
 have h1 : ((playL b l).2[i]).1 = l.getD i zD := by
  have : ((playL b l).2.map (·.1))[i]? = l[i]? := by rw [playL_log]
  rw [List.getElem?_map, List.getElem?_eq_getElem hi', List.getElem?_eq_getElem hi] at this
  simpa [List.getD, hi] using this
 have := first_playL b l ((playL b l).2[i]) (List.getElem_mem hi') (by rw [h1]; exact h0)
 rw [h1] at this
 rw [this]
 simp [List.getD, hi']
structure Sd (m all : List Dd) : Prop where
 ids : ∀ j, j < m.length → (m.getD j zD).id = (j : Int) + 1
 like : ∀ b, Alike (playL b m) (playL b all)
 mem : ∀ i, i < all.length → ∃ j, j < m.length ∧ all.getD i zD = m.getD j zD
theorem sd_nil : Sd [] [] := ⟨fun j hj => by simp at hj, fun b => ⟨rfl, fun _ _ => rfl⟩, fun i hi => by simp at hi⟩
theorem getD_snoc {l : List Dd} {d : Dd} {i : Nat} : (l ++ [d]).getD i zD = if i < l.length then l.getD i zD else if i = l.length then d else zD := by
 by_cases h : i < l.length
 ·rw [if_pos h, List.getD_eq_getElem?_getD, List.getElem?_append_left h, List.getD_eq_getElem?_getD]
 ·rw [if_neg h]
  by_cases h2 : i = l.length
  ·rw [if_pos h2, h2]; simp [List.getD]
  ·rw [if_neg h2]
   have : (l ++ [d])[i]? = none := by rw [List.getElem?_eq_none_iff]; simp; omega
   simp [List.getD, this]
theorem Sd.next {m all : List Dd} (S : Sd m all) {d : Dd} (hd : d.id = (m.length : Int) + 1) : Sd (m ++ [d]) (all ++ [d]) := by
 refine ⟨fun j hj => ?_, fun b => ?_, fun i hi => ?_⟩
 ·rw [List.length_append, List.length_singleton] at hj
  rw [getD_snoc]
  split
  ·rename_i h; exact S.ids j h
  ·rw [if_pos (by omega), hd]; omega
 ·rw [playL_snoc, playL_snoc]; exact (S.like b).both d
 ·rw [List.length_append, List.length_singleton] at hi
  rw [getD_snoc]
  split
  ·rename_i h
   obtain ⟨j, h1, h2⟩ := S.mem i h
   exact ⟨j, by rw [List.length_append]; omega, by rw [getD_snoc, if_pos h1]; exact h2⟩
  ·rw [if_pos (by omega)]
   exact ⟨m.length, by simp, by rw [getD_snoc]; simp⟩
theorem Sd.again {m all : List Dd} (S : Sd m all) {k : Nat} (hk : k < m.length) : Sd m (all ++ [m.getD k zD]) := by
 have h0 : (m.getD k zD).id ≠ 0 := by rw [S.ids k hk]; omega
 refine ⟨S.ids, fun b => ?_, fun i hi => ?_⟩
 ·rw [playL_snoc]
  refine (S.like b).again h0 (a := ((playL b m).2.map (·.2)).getD k (0, 0)) ?_
  rw [← (S.like b).told _ h0]
  exact told_at b m hk h0
 ·rw [List.length_append, List.length_singleton] at hi
  rw [getD_snoc]
  split
  ·rename_i h; exact S.mem i h
  ·rw [if_pos (by omega)]; exact ⟨k, hk, rfl⟩
theorem Sd.tell {m all : List Dd} (S : Sd m all) (b : Bank) {i : Nat} (hi : i < all.length) : ∃ j, j < m.length ∧ (all.getD i zD).id = (j : Int) + 1 ∧ ((playL b all).2.map (·.2)).getD i (0, 0) = ((playL b m).2.map (·.2)).getD j (0, 0) := by
 obtain ⟨j, h1, h2⟩ := S.mem i hi
 have h0 : (m.getD j zD).id ≠ 0 := by rw [S.ids j h1]; omega
 refine ⟨j, h1, by rw [h2]; exact S.ids j h1, ?_⟩
 have e1 := told_at b all hi (by rw [h2]; exact h0)
 have e2 := told_at b m h1 h0
 rw [h2, ← (S.like b).told _ h0, e2] at e1
 exact (Option.some.inj e1).symm
end Go.Proofs.YtofcnebekmjdoaaGreatDoor.Bn
