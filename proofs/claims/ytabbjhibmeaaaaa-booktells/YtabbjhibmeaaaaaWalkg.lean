/- The walk of Post. -/
import Derived.Test.YtabbjhibmeaaaaaWalkf
import Derived.Test.YtabbjhibmeaaaaaMathc
namespace Go.Proofs.Ytabbjhibmeaaaaa
open Go.RowKit

/-- What Post and Move answer: a book that the caller may read, and an error's number. -/
def Answers (w : World) (r : List (Int × Int) × Int) (e : Ending) (w' : World) : Prop :=
  ∃ a cap, e = .returned (.tuple #[.slice a r.1.length cap, .int .i64 r.2]) ∧ Ents w' a r.1 ∧ Below w.heap.size w w'

theorem ents_nil (w : World) (a : Option Addr) : Ents w a [] := ⟨by simp [maxLen], Or.inl rfl⟩

set_option maxHeartbeats 1000000 in
theorem post_bad (a : Option Addr) (cap : Nat) (l : List (Int × Int)) (a2 : Option Addr) (cap2 : Nat) (E : List (Int × Int)) (w : World) (hl : Ents w a l) (_hE : Ents w a2 E) (hw : (wrong l).1 ≠ 0) :
    Calls Try.prog 10 #[.slice a l.length cap, .slice a2 E.length cap2] w fun e w' => Answers w (post l E) e w' := by
  have HP := hid (post_wrong (E := E) hw)
  have hne : ((wrong l).1 != 0) = true := by simpa using hw
  clear hw
  go_enter Try.func10, Try.ntmps10
  go_wp2_with fail
  refine (wrong_any _ _ _ _ hl).mono ?_
  rintro e w1 ⟨rfl, hb1⟩
  generalize wrong l = r at *
  go_wp2
  go_quiet (fail)
  go_wp2
  go_ret2
  unfold Answers
  rw [HP.out]
  exact ⟨none, 0, rfl, ents_nil _ _, below_drewN (hb1.alloc hb1.size _) _⟩

set_option maxHeartbeats 1000000 in
theorem post_entr (a : Option Addr) (cap : Nat) (l : List (Int × Int)) (a2 : Option Addr) (cap2 : Nat) (E : List (Int × Int)) (w : World) (hl : Ents w a l) (hE : Ents w a2 E) (hw : (wrong l).1 = 0) (hw2 : wrongEs E ≠ 0) :
    Calls Try.prog 10 #[.slice a l.length cap, .slice a2 E.length cap2] w fun e w' => Answers w (post l E) e w' := by
  have HP := hid (post_entries hw hw2)
  have hne : ((wrong l).1 != 0) = false := by simpa using hw
  have hne2 : (wrongEs E != 0) = true := by simpa using hw2
  clear hw hw2
  go_enter Try.func10, Try.ntmps10
  go_wp2_with fail
  refine (wrong_any _ _ _ _ hl).mono ?_
  rintro e w1 ⟨rfl, hb1⟩
  generalize wrong l = r at *
  have hE1 : ∀ o, Ents (w1.alloc o) a2 E := fun o => hE.below (hb1.alloc hb1.size o)
  go_wp2_with fail
  refine (wrongEntries_any _ _ _ _ (hE1 _)).mono ?_
  rintro e w2 ⟨rfl, hb2⟩
  go_wp2
  go_ret2
  unfold Answers
  rw [HP.out]
  exact ⟨none, 0, rfl, ents_nil _ _, (hb1.alloc hb1.size _).trans (hb2.mono (by have := hb1.size; simp; omega))⟩

set_option maxHeartbeats 2000000 in
theorem post_good (a : Option Addr) (cap : Nat) (l : List (Int × Int)) (a2 : Option Addr) (cap2 : Nat) (E : List (Int × Int)) (w : World) (hl : Ents w a l) (hE : Ents w a2 E) (hw : (wrong l).1 = 0) (hw2 : wrongEs E = 0) :
    Calls Try.prog 10 #[.slice a l.length cap, .slice a2 E.length cap2] w fun e w' => Answers w (post l E) e w' := by
  have HR := hid (wrong_ok.1 hw)
  have HE := hid (wrongEs_ok.1 hw2)
  have HP := hid (post_much hw hw2)
  have HQ := hid (fun f => post_done (f := f) hw hw2)
  have hne : ((wrong l).1 != 0) = false := by simpa using hw
  have hne2 : (wrongEs E != 0) = false := by simpa using hw2
  clear hw hw2
  go_enter Try.func10, Try.ntmps10
  go_wp2_with fail
  refine (wrong_any _ _ _ _ hl).mono ?_
  rintro e w1 ⟨rfl, hb1⟩
  generalize (wrong l).1 = r at *
  generalize (wrong l).2 = r2 at *
  have hE1 : ∀ o, Ents (w1.alloc o) a2 E := fun o => hE.below (hb1.alloc hb1.size o)
  go_wp2_with fail
  refine (wrongEntries_any _ _ _ _ (hE1 _)).mono ?_
  rintro e w2 ⟨rfl, hb2⟩
  generalize wrongEs E = r3 at *
  have hb12 : Below w.heap.size w w2 := (hb1.alloc hb1.size _).trans (hb2.mono (by have := hb1.size; simp; omega))
  clear hE1 hb2
  go_wp2_with fail
  refine (ledger_any _).mono ?_
  rintro e w3 ⟨rfl, hb3, hs3, hz3⟩
  have hb13 : Below w.heap.size w w3 := hb12.trans (hb3.mono hb12.size)
  have hsz2 := hb12.size
  generalize w2.heap.size = S at *
  clear hb1 hb12 hb3 hz3
  obtain ⟨hm, hl⟩ := hl
  obtain ⟨hm2, hE⟩ := hE
  unfold maxLen at hm hm2
  have hfew : l.length ≤ 58 := HR.out.few
  have hfew2 : E.length ≤ 10 := HE.out.1
  go_wp2
  go_loopw [32] (fun i wr => ∃ (k : Nat) (g : Nat → Int), k ≤ l.length ∧ i = .int .i64 k ∧ Hid (AddL l k g) ∧ Sums wr S g ∧ Below w.heap.size w wr) (fun i _ => l.length - (intOf i).toNat)
  case atStart => exact ⟨0, zeroF, Nat.zero_le _, rfl, addL_zero l, hs3, hb13⟩
  case round =>
    obtain ⟨k, g, hk, rfl, hg, hs, hb⟩ := hrel
    have s1 := hb.size
    have hS := hs.lt
    by_cases hlt : k < l.length
    · rcases hl with rfl | ⟨b, off, rfl, hbl, hcell⟩
      · simp at hlt
      obtain ⟨c1, c2⟩ := hcell k hlt
      have hlt' : (k : Int) < l.length := by omega
      have e1 := (hb.cell (p := ⟨b, off + k * 2, none⟩) hbl).trans c1
      have e2 := (hb.cell (p := ⟨b, off + k * 2 + 1, none⟩) hbl).trans c2
      have hr := (HR.out.all _ (getD_mem hlt)).1
      have HG := hid (hg.out.next hlt hr)
      have HB := hid (fun i => hg.out.small i)
      clear c1 c2 hcell hg
      generalize l.getD k (0, 0) = x at *
      obtain ⟨ra, rb, rc, rd⟩ := inR_true.1 hr
      go_wp2_with fail
      refine (add_any x.1 x.2 S g _ (hs.below ((Below.refl wr.heap.size wr).alloc (Nat.le_refl _) _) hS) x.1.toNat (by omega) (by omega) (by have := HB.out x.1.toNat; omega) (by have := HB.out x.1.toNat; omega) rc rd).mono ?_
      rintro e w4 ⟨rfl, hb4, hs4⟩
      go_wp2
      go_roundw
      case rel => exact ⟨k + 1, _, by omega, by go_num, HG, hs4, hb.trans (((Below.refl _ _).alloc s1 _).trans (hb4.mono hsz2))⟩
      case measure => simp [intOf]; omega
    · have HF := hid (hg.out.done (by omega))
      have hsm : ∀ i, -58000000000000 ≤ g i ∧ g i ≤ 58000000000000 := fun i => by have := hg.out.small i; omega
      have HA := hid (addAll_zero E hsm)
      clear hg hsm hs3 hb13 hl
      go_wp2
      go_loopw [42] (fun i wr2 => ∃ (k : Nat) (g2 : Nat → Int), k ≤ E.length ∧ i = .int .i64 k ∧ Hid (AddAll g E k g2) ∧ Sums wr2 S g2 ∧ Below w.heap.size w wr2) (fun i _ => E.length - (intOf i).toNat)
      case atStart => exact ⟨0, g, Nat.zero_le _, rfl, HA, hs, hb⟩
      case round =>
        clear hs hb hS s1 HA
        obtain ⟨j, g2, hj, rfl, hg2, hs2, hb2⟩ := hrel
        have s1 := hb2.size
        have hS := hs2.lt
        by_cases hlt2 : j < E.length
        · rcases hE with rfl | ⟨b, off, rfl, hbl, hcell⟩
          · simp at hlt2
          obtain ⟨c1, c2⟩ := hcell j hlt2
          have hlt' : (j : Int) < E.length := by omega
          have e1 := (hb2.cell (p := ⟨b, off + j * 2, none⟩) hbl).trans c1
          have e2 := (hb2.cell (p := ⟨b, off + j * 2 + 1, none⟩) hbl).trans c2
          have hr := HE.out.2.1 _ (getD_mem hlt2)
          have HG := hid (hg2.out.next hlt2 hr)
          have HM := hid (hg2.out.much hlt2)
          have HB := hid (fun i => hg2.out.small i)
          clear c1 c2 hcell hg2
          generalize E.getD j (0, 0) = x at *
          obtain ⟨ra, rb, rc, rd⟩ := inR_true.1 hr
          go_wp2_with fail
          refine (add_any x.1 x.2 S g2 _ (hs2.below ((Below.refl _ _).alloc (Nat.le_refl _) _) hS) x.1.toNat (by omega) (by omega) (by have := HB.out x.1.toNat; omega) (by have := HB.out x.1.toNat; omega) rc rd).mono ?_
          rintro e w4 ⟨rfl, hb4, hs4⟩
          cases ht : inTot (g2 x.1.toNat + x.2) with
          | true =>
            have HG' := hid (HG.out ht)
            clear HG HM ht
            go_wp2
            go_roundw
            case rel => exact ⟨j + 1, _, by omega, by go_num, HG', hs4, hb2.trans (((Below.refl _ _).alloc s1 _).trans (hb4.mono hsz2))⟩
            case measure => simp [intOf]; omega
          | false =>
            have HG' := hid (HM.out ht)
            clear HG HM ht
            go_wp2
            go_ret2
            unfold Answers
            rw [HP.out (by rw [HF.out]; exact HG'.out)]
            exact ⟨none, 0, rfl, ents_nil _ _, hb2.trans (((Below.refl _ _).alloc s1 _).trans (hb4.mono hsz2))⟩
        · have HG := hid (hg2.out.done (by omega))
          clear hg2 hE
          go_wp2_with fail
          refine (listed_any S g2 _ hs2).mono ?_
          rintro e w5 ⟨v, rfl, hown, hb5⟩
          obtain ⟨a5, cap5, hv, hent⟩ := ents_of_owns hown
          rw [hv]
          clear hown hv
          go_wp2
          go_ret2
          unfold Answers
          rw [HQ.out g2 (by rw [HF.out]; exact HG.out)]
          exact ⟨a5, cap5, rfl, hent, hb2.trans (hb5.mono s1)⟩

theorem post_any (a : Option Addr) (cap : Nat) (l : List (Int × Int)) (a2 : Option Addr) (cap2 : Nat) (E : List (Int × Int)) (w : World) (hl : Ents w a l) (hE : Ents w a2 E) :
    Calls Try.prog 10 #[.slice a l.length cap, .slice a2 E.length cap2] w fun e w' => Answers w (post l E) e w' := by
  by_cases h1 : (wrong l).1 = 0
  · by_cases h2 : wrongEs E = 0
    · exact post_good a cap l a2 cap2 E w hl hE h1 h2
    · exact post_entr a cap l a2 cap2 E w hl hE h1 h2
  · exact post_bad a cap l a2 cap2 E w hl hE h1
end Go.Proofs.Ytabbjhibmeaaaaa
