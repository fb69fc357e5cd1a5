/- Two sides: what was put, what is on its way, what was taken. No program here. -/
import Derived.Test.YtffgglkobngddabPoMath
namespace Go.Proofs.Ytffgglkobngddab.Po

theorem right_zero : Right zeroS := ⟨by simp [zeroS], by simp [zeroS], by simp [zeroS], fun i t h => by simp [zeroS] at h⟩

/-- The sender, what was put, what is on its way, what was taken, how many came; so many things were done. -/
structure Ok (i : Nat) (s : Se) (put way got : List Tr) (seen : Nat) : Prop where
  right : Right s
  sent : s.sent = put.length
  num : ∀ (j : Nat) (t : Tr), put[j]? = some t → t.n = j + 1
  kept : ∃ d, d ≤ seen ∧ s.kept = put.drop d
  way : ∀ t ∈ way, t ∈ put
  got : got = put.take seen
  seen : seen ≤ put.length
  few : put.length ≤ i

theorem Ok.zero : Ok 0 zeroS [] [] [] 0 :=
  ⟨right_zero, rfl, (fun j t h => by simp at h), ⟨0, Nat.le_refl _, rfl⟩, (fun _ h => by cases h), rfl, Nat.le_refl _, Nat.le_refl _⟩

theorem Ok.skip {i : Nat} {s : Se} {put way got : List Tr} {seen : Nat} (h : Ok i s put way got seen) : Ok (i + 1) s put way got seen :=
  ⟨h.right, h.sent, h.num, h.kept, h.way, h.got, h.seen, Nat.le_succ_of_le h.few⟩

theorem Ok.put {i : Nat} {s : Se} {put way got : List Tr} {seen : Nat} (h : Ok i s put way got seen) {t : Tr} (hw : (wrongS (outS s t)).1 = 0) :
    Ok (i + 1) (outS s t) (put ++ [nextT s t]) way got seen := by
  have hs := h.sent
  have h0 := h.seen
  obtain ⟨d, hd, hk⟩ := h.kept
  refine ⟨wrongS_ok.1 hw, ?_, ?_, ⟨d, hd, ?_⟩, ?_, ?_, by simp; omega, by have := h.few; simp; omega⟩
  · simp [outS, hs]
  · intro j u hu
    rcases Nat.lt_or_ge j put.length with hj | hj
    · rw [List.getElem?_append_left hj] at hu; exact h.num j u hu
    · rw [List.getElem?_append_right hj] at hu
      have h0 : j - put.length = 0 := by
        rcases Nat.eq_zero_or_pos (j - put.length) with h | h
        · exact h
        · rw [List.getElem?_eq_none (by simp; omega)] at hu; cases hu
      rw [h0] at hu
      simp at hu; subst hu
      simp [nextT, hs]; omega
  · simp only [outS, hk]
    rw [List.drop_append_of_le_length (by omega)]
  · intro u hu; exact List.mem_append_left _ (h.way u hu)
  · rw [h.got, List.take_append_of_le_length h0]

theorem Ok.send {i : Nat} {s : Se} {put way got : List Tr} {seen : Nat} (h : Ok i s put way got seen) : Ok (i + 1) s put (way ++ s.kept) got seen := by
  obtain ⟨d, hd, hk⟩ := h.kept
  refine ⟨h.right, h.sent, h.num, ⟨d, hd, hk⟩, fun u hu => ?_, h.got, h.seen, Nat.le_succ_of_le h.few⟩
  rcases List.mem_append.1 hu with hu | hu
  · exact h.way u hu
  · rw [hk] at hu; exact List.mem_of_mem_drop hu

theorem Ok.lose {i : Nat} {s : Se} {put way got : List Tr} {seen : Nat} (h : Ok i s put way got seen) {way' : List Tr} (hw : ∀ t ∈ way', t ∈ way) : Ok i s put way' got seen :=
  ⟨h.right, h.sent, h.num, h.kept, fun u hu => h.way u (hw u hu), h.got, h.seen, h.few⟩

theorem Ok.take {i : Nat} {s : Se} {put way got : List Tr} {seen : Nat} (h : Ok i s put way got seen) {t : Tr} (ht : t ∈ put) (hn : t.n = (seen : Int) + 1) : Ok (i + 1) s put way (got ++ [t]) (seen + 1) := by
  obtain ⟨j, hj⟩ := List.mem_iff_getElem?.1 ht
  have h1 := h.num j t hj
  have h2 : j = seen := by omega
  subst h2
  have hl : j < put.length := (List.getElem?_eq_some_iff.1 hj).1
  obtain ⟨d, hd, hk⟩ := h.kept
  refine ⟨h.right, h.sent, h.num, ⟨d, by omega, hk⟩, h.way, ?_, by omega, Nat.le_succ_of_le h.few⟩
  rw [h.got, List.take_add_one, hj]; rfl

theorem Ok.back {i : Nat} {s : Se} {put way got : List Tr} {seen : Nat} (h : Ok i s put way got seen) :
    backS s seen = (⟨s.sent, those seen s.kept⟩, 0) ∧ Ok (i + 1) ⟨s.sent, those seen s.kept⟩ put way got seen := by
  have hs := h.sent
  have h0 := h.seen
  obtain ⟨d, hd, hk⟩ := h.kept
  refine ⟨backS_ok (wrongS_ok.2 h.right) (by omega), ?_⟩
  obtain ⟨j, hj, hl, hcase⟩ := right_back (seen := seen) h.right (by omega)
  have hlen : s.kept.length = put.length - d := by rw [hk]; simp
  have hjs : d + j = seen := by
    rcases hcase with hc | ⟨hc, hc2⟩ <;> omega
  refine ⟨right_back' h.right (by omega), hs, h.num, ⟨seen, Nat.le_refl _, ?_⟩, h.way, h.got, h0, Nat.le_succ_of_le h.few⟩
  rw [hj, hk, List.drop_drop, hjs]

/-- In the end: what was taken is what was put. -/
theorem Ok.same {i : Nat} {s : Se} {put way got : List Tr} {seen : Nat} (h : Ok i s put way got seen) : got.length = seen ∧ got.length ≤ put.length ∧ (wrongS s).1 = 0 ∧ ∀ j, j < got.length → got.getD j zeroT = put.getD j zeroT := by
  have h0 := h.seen
  have hl : got.length = seen := by rw [h.got]; simp; omega
  refine ⟨hl, by omega, wrongS_ok.2 h.right, fun j hj => ?_⟩
  rw [h.got]
  simp only [List.getD_eq_getElem?_getD]
  rw [List.getElem?_take_of_lt (by omega)]
end Go.Proofs.Ytffgglkobngddab.Po
