/- Sorting in place: the walks of SortStableFunc and Sorted. -/
import Derived.Test.YtodkcagingnelabDyg
namespace Go.Proofs.Ytodkcagingnelab.Dy
open Go.RowKit Go.Proofs.Ytodkcagingnelab.Gn

set_option maxHeartbeats 400000 in
theorem sortStable_none (a : Option Addr) (cap : Nat) (w : World) : Calls Try.prog 72 #[.slice a 0 cap, .func (.func 73) #[] #[]] w fun e w' => e = .returned (.tuple #[]) ∧ w' = w := by
  go_enter Try.func72, Try.ntmps72
  go_wp2_with (go_at_call 84; refine (stable_none _ _ _).mono ?_; rintro e w' ⟨rfl, rfl⟩)
  go_end0
  exact ⟨rfl, rfl⟩

set_option maxHeartbeats 400000 in
theorem sortStable_any (L : List Rc) (g N cap : Nat) (w : World) (hN : N = L.length) (hN2 : N ≤ 1000000000000000) (hB : Blo w g L) :
    Calls Try.prog 72 #[.slice (some ⟨g, 0, none⟩) N cap, .func (.func 73) #[] #[]] w fun e w' => e = .returned (.tuple #[]) ∧ Sorts w g (sortR L) w' := by
  have HN := hid hN
  clear hN
  go_enter Try.func72, Try.ntmps72
  go_wp2_with (go_at_call 84; refine (stable_any L g N cap _ HN.out hN2 hB).mono ?_; rintro e w' ⟨rfl, hs⟩)
  go_end0
  exact ⟨rfl, hs⟩

/-- What a call answers that makes a list of records. -/
def AnswersR (w : World) (L : List Rc) (e : Ending) (w' : World) : Prop := ∃ a cap, e = .returned (.slice a L.length cap) ∧ Lies kR w' a cap L ∧ Past w.heap.size a ∧ (∀ ad, a = some ad → ad.block < w'.heap.size) ∧ Below w.heap.size w w'

set_option maxHeartbeats 1000000 in
theorem sorted_any (L : List Rc) (v : Value) (w : World) (h : At kR w v L) (hN : L.length * 32 ≤ 140737488355328) :
    Calls Try.prog 45 #[v] w (AnswersR w (sortR L)) := by
  have hm := h.len
  obtain ⟨a, c, rfl, hl⟩ := h
  go_enter Try.func45, Try.ntmps45
  go_wp2_with (at_builtin; refine wpList_append elemR _ rfl _ _ rfl w.heap.size _ [] rfl .nil a L.length c L rfl rfl hl ?c3 ?c4 ?c5 ?_)
  case c3 => simpa using hm
  case c4 => simpa using hN
  case c5 => exact Nat.le_refl _
  intro v' w3 hrow hgrow hat hown
  have hb3 : Below w.heap.size w w3 := below_grown (L := []) (Below.refl _ _) hgrow (.nil : Row kR 87 w w.heap.size (.slice none 0 0) []) (Nat.le_refl _) (Nat.le_refl _)
  by_cases h0 : L = []
  · subst h0
    obtain ⟨a3, c3, rfl, hl3, hp3, hlt3⟩ := hrow.lies
    clear hown hrow hgrow hat
    have hl4 : Hid (Lies kR w3 a3 c3 (sortR [])) := hid hl3
    clear hl3
    dsimp only [List.length_nil]
    go_wp2_with (go_at_call 72; refine (sortStable_none _ _ _).mono ?_; rintro e w' ⟨rfl, rfl⟩)
    go_ret
    exact ⟨a3, c3, rfl, hl4.out, hp3, hlt3, hb3⟩
  · obtain ⟨g, cap, rfl, hcap, hg, hB⟩ := blo_of_owns (hown h0) h0
    have HB := hid hB
    have hN2 : L.length ≤ 1000000000000000 := by omega
    clear hown hrow hgrow hat hB
    go_wp2_with (go_at_call 72; refine (sortStable_any L g L.length cap _ rfl hN2 HB.out).mono ?_; rintro e w4 ⟨rfl, hs⟩)
    go_ret
    exact ⟨some ⟨g, 0, none⟩, cap, by rw [sort_length]; rfl, hs.blo.lies cap, (fun _ h => by cases h; exact hg), (fun _ h => by cases h; exact hs.blo.lt), hb3.trans (hs.bel.mono hg)⟩
end Go.Proofs.Ytodkcagingnelab.Dy
