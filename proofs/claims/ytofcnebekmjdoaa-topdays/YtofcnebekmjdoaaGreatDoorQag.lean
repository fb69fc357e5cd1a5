import Derived.Deep.CutRange
import Derived.Deep.RegionLaw
import Derived.Deep.RegionWith
import Derived.Test.YtofcnebekmjdoaaGreatDoorQaf
set_option maxHeartbeats 4000000
set_option maxRecDepth 100000
namespace Go.Proofs.YtofcnebekmjdoaaGreatDoor.Bk
open RowKit
def Answers (w : World) (r : List (Int × Int) × Int) (e : Ending) (w' : World) : Prop :=
 ∃ a cap, e = .returned (.tuple #[.slice a r.1.length cap, .int .i64 r.2]) ∧ Ents w' a r.1 ∧ Below w.heap.size w w'
def AnswersN (w : World) (r : List (Int × Int) × Int) (e : Ending) (w' : World) : Prop :=
 ∃ a cap, e = .returned (.tuple #[.slice a r.1.length cap, .int .i64 r.2]) ∧ Ents w' a r.1 ∧ (∀ ad, a = some ad → w.heap.size ≤ ad.block) ∧ (a = none → cap = 0) ∧ Below w.heap.size w w'
theorem AnswersN.plain {w w' : World} {r : List (Int × Int) × Int} {e : Ending} (h : AnswersN w r e w') : Answers w r e w' := by
 obtain ⟨a, cap, h1, h2, -, -, h3⟩ := h
 exact ⟨a, cap, h1, h2, h3⟩
theorem ents_new {w : World} {base : Nat} {v : Value} {L : List (Int × Int)} (h : w.ownsRow base 114 2 v L.length (flat L)) : ∃ a cap, v = .slice a L.length cap ∧ Ents w a L ∧ (∀ ad, a = some ad → base ≤ ad.block) ∧ (a = none → cap = 0) := by
 obtain ⟨a, cap, hv, hE⟩ := ents_of_owns h
 rcases h.2 with ⟨h0, -⟩ | ⟨g, cap', cur, h0, hg, -⟩
 ·rw [hv] at h0
  obtain ⟨rfl, -, rfl⟩ := Value.slice.inj h0
  exact ⟨none, 0, hv, hE, (fun _ h => by cases h), fun _ => rfl⟩
 ·rw [hv] at h0
  obtain ⟨rfl, -, -⟩ := Value.slice.inj h0
  exact ⟨_, cap, hv, hE, (fun _ h => by cases h; exact hg), fun h => by cases h⟩
theorem ents_nil (w : World) (a : Option Addr) : Ents w a [] := ⟨by simp [maxLen], Or.inl rfl⟩
theorem post_bad (a : Option Addr) (cap : Nat) (l : List (Int × Int)) (a2 : Option Addr) (cap2 : Nat) (E : List (Int × Int)) (w : World) (hl : Ents w a l) (_hE : Ents w a2 E) (hw : (wrong l).1 ≠ 0) :
  Calls Tryz.prog 180 #[.slice a l.length cap, .slice a2 E.length cap2] w fun e w' => AnswersN w (post l E) e w' := by
 have HP := hid (post_wrong (E := E) hw)
 have hne : ((wrong l).1 != 0) = true := by simpa using hw
 clear hw
 go_enter Tryz.func180, Tryz.ntmps180
 go_wp2_with fail
 refine (wrong_any _ _ _ _ hl).mono ?_
 rintro e w1 ⟨rfl, hb1⟩
 generalize wrong l = r at *
 go_wp2
 go_quiet (fail)
 go_wp2
 go_ret2
 unfold AnswersN
 rw [HP.out]
 exact ⟨none, 0, rfl, ents_nil _ _, (fun _ h => by cases h), (fun _ => rfl), below_drewN (hb1.alloc hb1.size _) _⟩
theorem post_entr (a : Option Addr) (cap : Nat) (l : List (Int × Int)) (a2 : Option Addr) (cap2 : Nat) (E : List (Int × Int)) (w : World) (hl : Ents w a l) (hE : Ents w a2 E) (hw : (wrong l).1 = 0) (hw2 : wrongEs E ≠ 0) :
  Calls Tryz.prog 180 #[.slice a l.length cap, .slice a2 E.length cap2] w fun e w' => AnswersN w (post l E) e w' := by
 have HP := hid (post_entries hw hw2)
 have hne : ((wrong l).1 != 0) = false := by simpa using hw
 have hne2 : (wrongEs E != 0) = true := by simpa using hw2
 clear hw hw2
 go_enter Tryz.func180, Tryz.ntmps180
 go_wp2_with fail
 refine (wrong_any _ _ _ _ hl).mono ?_
 rintro e w1 ⟨rfl, hb1⟩
 generalize wrong l = r at *
 have hE1 : ∀ o, Ents (w1.alloc o) a2 E := fun o => hE.below (hb1.alloc hb1.size o)
 go_wp2_with fail
 refine (wrongEntries_any _ _ _ _ (hE1 _)).mono ?_
 rintro e w2 ⟨rfl, hb2⟩
 go_wp2
 go_ret2
 unfold AnswersN
 rw [HP.out]
 exact ⟨none, 0, rfl, ents_nil _ _, (fun _ h => by cases h), (fun _ => rfl), (hb1.alloc hb1.size _).trans (hb2.mono (by have := hb1.size; simp; omega))⟩
theorem post_good (a : Option Addr) (cap : Nat) (l : List (Int × Int)) (a2 : Option Addr) (cap2 : Nat) (E : List (Int × Int)) (w : World) (hl : Ents w a l) (hE : Ents w a2 E) (hw : (wrong l).1 = 0) (hw2 : wrongEs E = 0) :
  Calls Tryz.prog 180 #[.slice a l.length cap, .slice a2 E.length cap2] w fun e w' => AnswersN w (post l E) e w' := by
 have HR := hid (wrong_ok.1 hw)
 have HE := hid (wrongEs_ok.1 hw2)
 have HP := hid (post_much hw hw2)
 have HQ := hid (fun f => post_done (f := f) hw hw2)
 have hne : ((wrong l).1 != 0) = false := by simpa using hw
 have hne2 : (wrongEs E != 0) = false := by simpa using hw2
 clear hw hw2
 go_enter Tryz.func180, Tryz.ntmps180
 go_wp2_with fail
 refine (wrong_any _ _ _ _ hl).mono ?_
 rintro e w1 ⟨rfl, hb1⟩
 generalize (wrong l).1 = r at *
 generalize (wrong l).2 = r2 at *
 have hE1 : ∀ o, Ents (w1.alloc o) a2 E := fun o => hE.below (hb1.alloc hb1.size o)
 go_wp2_with fail
 refine (wrongEntries_any _ _ _ _ (hE1 _)).mono ?_
 rintro e w2 ⟨rfl, hb2⟩
 generalize wrongEs E = r3 at *
 have hb12 : Below w.heap.size w w2 := (hb1.alloc hb1.size _).trans (hb2.mono (by have := hb1.size; simp; omega))
 clear hE1 hb2
 go_wp2_with fail
 refine (ledger_any _).mono ?_
 rintro e w3 ⟨rfl, hb3, hs3, hz3⟩
 have hb13 : Below w.heap.size w w3 := hb12.trans (hb3.mono hb12.size)
 have hsz2 := hb12.size
 generalize w2.heap.size = S at *
 clear hb1 hb12 hb3 hz3
 obtain ⟨hm, hl⟩ := hl
 obtain ⟨hm2, hE⟩ := hE
 unfold maxLen at hm hm2
 have hfew : l.length ≤ 58 := HR.out.few
 have hfew2 : E.length ≤ 10 := HE.out.1
 go_wp2
 go_loopw [32] (fun i wr => ∃ (k : Nat) (g : Nat → Int), k ≤ l.length ∧ i = .int .i64 k ∧ Hid (AddL l k g) ∧ Sums wr S g ∧ Below w.heap.size w wr) (fun i _ => l.length - (intOf i).toNat)
 case atStart => exact ⟨0, zeroF, Nat.zero_le _, rfl, addL_zero l, hs3, hb13⟩
 case round =>
  obtain ⟨k, g, hk, rfl, hg, hs, hb⟩ := hrel
  have s1 := hb.size
  have hS := hs.lt
  by_cases hlt : k < l.length
  ·rcases hl with rfl | ⟨b, off, rfl, hbl, hcell⟩
   ·simp at hlt
   obtain ⟨c1, c2⟩ := hcell k hlt
   have hlt' : (k : Int) < l.length := by omega
   have e1 := (hb.cell (p := ⟨b, off + k * 2, none⟩) hbl).trans c1
   have e2 := (hb.cell (p := ⟨b, off + k * 2 + 1, none⟩) hbl).trans c2
   have hr := (HR.out.all _ (getD_mem hlt)).1
   have HG := hid (hg.out.next hlt hr)
   have HB := hid (fun i => hg.out.small i)
   clear c1 c2 hcell hg
   generalize l.getD k (0, 0) = x at *
   obtain ⟨ra, rb, rc, rd⟩ := inR_true.1 hr
   go_wp2_with fail
   refine (add_any x.1 x.2 S g _ (hs.below ((Below.refl wr.heap.size wr).alloc (Nat.le_refl _) _) hS) x.1.toNat (by omega) (by omega) (by have := HB.out x.1.toNat; omega) (by have := HB.out x.1.toNat; omega) rc rd).mono ?_
   rintro e w4 ⟨rfl, hb4, hs4⟩
   go_wp2
   go_roundw
   case rel => exact ⟨k + 1, _, by omega, by go_num, HG, hs4, hb.trans (((Below.refl _ _).alloc s1 _).trans (hb4.mono hsz2))⟩
   case measure => simp [intOf]; omega
  ·have HF := hid (hg.out.done (by omega))
   have hsm : ∀ i, -58000000000000 ≤ g i ∧ g i ≤ 58000000000000 := fun i => by have := hg.out.small i; omega
   have HA := hid (addAll_zero E hsm)
   clear hg hsm hs3 hb13 hl
   go_wp2
   go_loopw [42] (fun i wr2 => ∃ (k : Nat) (g2 : Nat → Int), k ≤ E.length ∧ i = .int .i64 k ∧ Hid (AddAll g E k g2) ∧ Sums wr2 S g2 ∧ Below w.heap.size w wr2) (fun i _ => E.length - (intOf i).toNat)
   case atStart => exact ⟨0, g, Nat.zero_le _, rfl, HA, hs, hb⟩
   case round =>
    clear hs hb hS s1 HA
    obtain ⟨j, g2, hj, rfl, hg2, hs2, hb2⟩ := hrel
    have s1 := hb2.size
    have hS := hs2.lt
    by_cases hlt2 : j < E.length
    ·rcases hE with rfl | ⟨b, off, rfl, hbl, hcell⟩
     ·simp at hlt2
     obtain ⟨c1, c2⟩ := hcell j hlt2
     have hlt' : (j : Int) < E.length := by omega
     have e1 := (hb2.cell (p := ⟨b, off + j * 2, none⟩) hbl).trans c1
     have e2 := (hb2.cell (p := ⟨b, off + j * 2 + 1, none⟩) hbl).trans c2
     have hr := HE.out.2.1 _ (getD_mem hlt2)
     have HG := hid (hg2.out.next hlt2 hr)
     have HM := hid (hg2.out.much hlt2)
     have HB := hid (fun i => hg2.out.small i)
     clear c1 c2 hcell hg2
     generalize E.getD j (0, 0) = x at *
     obtain ⟨ra, rb, rc, rd⟩ := inR_true.1 hr
     go_wp2_with fail
     refine (add_any x.1 x.2 S g2 _ (hs2.below ((Below.refl _ _).alloc (Nat.le_refl _) _) hS) x.1.toNat (by omega) (by omega) (by have := HB.out x.1.toNat; omega) (by have := HB.out x.1.toNat; omega) rc rd).mono ?_
     rintro e w4 ⟨rfl, hb4, hs4⟩
     cases ht : inTot (g2 x.1.toNat + x.2) with
     | true =>
      have HG' := hid (HG.out ht)
      clear HG HM ht
      go_wp2
      go_roundw
      case rel => exact ⟨j + 1, _, by omega, by go_num, HG', hs4, hb2.trans (((Below.refl _ _).alloc s1 _).trans (hb4.mono hsz2))⟩
      case measure => simp [intOf]; omega
     | false =>
      have HG' := hid (HM.out ht)
      clear HG HM ht
      go_wp2
      go_ret2
      unfold AnswersN
      rw [HP.out (by rw [HF.out]; exact HG'.out)]
      exact ⟨none, 0, rfl, ents_nil _ _, (fun _ h => by cases h), (fun _ => rfl), hb2.trans (((Below.refl _ _).alloc s1 _).trans (hb4.mono hsz2))⟩
    ·have HG := hid (hg2.out.done (by omega))
     clear hg2 hE
     go_wp2_with fail
     refine (listed_any S g2 _ hs2).mono ?_
     rintro e w5 ⟨v, rfl, hown, hb5⟩
     obtain ⟨a5, cap5, hv, hent, hpast, hnone⟩ := ents_new hown
     rw [hv]
     clear hown hv
     go_wp2
     go_ret2
     unfold AnswersN
     rw [HQ.out g2 (by rw [HF.out]; exact HG.out)]
     exact ⟨a5, cap5, rfl, hent, (fun ad had => by have := hpast ad had; omega), hnone, hb2.trans (hb5.mono s1)⟩
theorem post_new (a : Option Addr) (cap : Nat) (l : List (Int × Int)) (a2 : Option Addr) (cap2 : Nat) (E : List (Int × Int)) (w : World) (hl : Ents w a l) (hE : Ents w a2 E) :
  Calls Tryz.prog 180 #[.slice a l.length cap, .slice a2 E.length cap2] w fun e w' => AnswersN w (post l E) e w' := by
 by_cases h1 : (wrong l).1 = 0
 ·by_cases h2 : wrongEs E = 0
  ·exact post_good a cap l a2 cap2 E w hl hE h1 h2
  ·exact post_entr a cap l a2 cap2 E w hl hE h1 h2
 ·exact post_bad a cap l a2 cap2 E w hl hE h1
def move (l : List (Int × Int)) (src dst sum : Int) : List (Int × Int) × Int :=
 if sum < 0 ∨ 1000000000000 < sum then ([], 3) else post l [(src, -sum), (dst, sum)]
theorem ents_two (w : World) (x y z u : Int) : Ents (w.alloc (.cells #[.int .i64 x, .int .i64 y, .int .i64 z, .int .i64 u] 114)) (some ⟨w.heap.size, 0, none⟩) [(x, y), (z, u)] := by
 refine ⟨by simp [maxLen], Or.inr ⟨w.heap.size, 0, rfl, by simp, fun i hi => ?_⟩⟩
 rw [World.cell?_alloc_at _ _ _ _ rfl, World.cell?_alloc_at _ _ _ _ rfl]
 match i, hi with
 | 0, _ => exact ⟨rfl, rfl⟩
 | 1, _ => exact ⟨rfl, rfl⟩
theorem AnswersN.up {w w1 w' : World} {r : List (Int × Int) × Int} {e : Ending} (hb : Below w.heap.size w w1) (h : AnswersN w1 r e w') : AnswersN w r e w' := by
 obtain ⟨a, cap, he, hE, hp, hn, hb'⟩ := h
 exact ⟨a, cap, he, hE, (fun ad had => Nat.le_trans hb.size (hp ad had)), hn, hb.trans (hb'.mono hb.size)⟩
theorem move_new (a : Option Addr) (cap : Nat) (l : List (Int × Int)) (src dst sum : Int) (w : World) (hl : Ents w a l) :
  Calls Tryz.prog 170 #[.slice a l.length cap, .int .i64 src, .int .i64 dst, .int .i64 sum] w fun e w' => AnswersN w (move l src dst sum) e w' := by
 by_cases h : sum < 0 ∨ 1000000000000 < sum
 ·have HM : Hid (move l src dst sum = ([], 3)) := hid (by unfold move; rw [if_pos h])
  rcases h with h | h
  ·go_enter Tryz.func170, Tryz.ntmps170
   go_wp2
   go_ret2
   unfold AnswersN
   rw [HM.out]
   exact ⟨none, 0, rfl, ents_nil _ _, (fun _ h => by cases h), (fun _ => rfl), Below.refl _ _⟩
  ·have h0 : 0 ≤ sum := by omega
   go_enter Tryz.func170, Tryz.ntmps170
   go_wp2
   go_ret2
   unfold AnswersN
   rw [HM.out]
   exact ⟨none, 0, rfl, ents_nil _ _, (fun _ h => by cases h), (fun _ => rfl), Below.refl _ _⟩
 ·have HM : Hid (move l src dst sum = post l [(src, -sum), (dst, sum)]) := hid (by unfold move; rw [if_neg h])
  have h0 : 0 ≤ sum := by omega
  have h1 : sum ≤ 1000000000000 := by omega
  clear h
  have hb0 : ∀ o, Below w.heap.size w (w.alloc o) := fun o => (Below.refl _ _).alloc (Nat.le_refl _) o
  go_enter Tryz.func170, Tryz.ntmps170
  go_wp2_with fail
  refine (post_new a cap l (some ⟨w.heap.size, 0, none⟩) 2 [(src, -sum), (dst, sum)] _ (hl.below (hb0 _)) (ents_two w src (-sum) dst sum)).mono ?_
  intro e w1 hA
  obtain ⟨a1, cap1, rfl, hE1, hp1, hn1, hb1⟩ := AnswersN.up (hb0 _) hA
  generalize post l [(src, -sum), (dst, sum)] = r at *
  clear hA
  go_wp2
  go_ret2
  unfold AnswersN
  rw [HM.out]
  exact ⟨a1, cap1, rfl, hE1, hp1, hn1, hb1⟩
end Go.Proofs.YtofcnebekmjdoaaGreatDoor.Bk
namespace Go.Proofs.YtofcnebekmjdoaaGreatDoor.Po
open RowKit Gn
def tv (t : Tr) : Value := .agg #[.int .i64 t.n, .int .i64 t.k, .int .i64 t.a, .int .i64 t.s]
def tob (t : Tr) : Obj := .cells #[.int .i64 t.n, .int .i64 t.k, .int .i64 t.a, .int .i64 t.s] 64
def kT : Am Tr where
 cells := fun t => [.int .i64 t.n, .int .i64 t.k, .int .i64 t.a, .int .i64 t.s]
 size := 4
 len := fun _ => rfl
 one := fun x u hu => by simp at hu; rcases hu with rfl | rfl | rfl | rfl <;> rfl
 pos := by decide
theorem infoT : (Tryz.prog.info? 64).map (fun i => (i.zero, i.size, i.bytes)) = some (some (.agg #[.int .i64 0, .int .i64 0, .int .i64 0, .int .i64 0]), 4, 32) := by kernel_rfl
theorem elemT : Elem Tryz.prog kT 29 64 32 := by
 obtain ⟨i, h1, h2, h3, h4⟩ := info_parts infoT
 exact ⟨Tryz.underlying29, i, _, h1, h2, h3, h4, rfl⟩
theorem tr_cells {w : World} {a : Option Addr} {cap : Nat} {L : List Tr} (h : Lies kT w a cap L) {i : Nat} (hi : i < L.length) :
  ∃ b off, a = some ⟨b, off, none⟩ ∧ b < w.heap.size ∧ w.cell? ⟨b, off + i * 4, none⟩ = some (.int .i64 (L.getD i zeroT).n) ∧ w.cell? ⟨b, off + i * 4 + 1, none⟩ = some (.int .i64 (L.getD i zeroT).k) ∧
   w.cell? ⟨b, off + i * 4 + 2, none⟩ = some (.int .i64 (L.getD i zeroT).a) ∧ w.cell? ⟨b, off + i * 4 + 3, none⟩ = some (.int .i64 (L.getD i zeroT).s) := by
 obtain ⟨b, off, ha, hb, hc⟩ := h.elem (i := i) (x := L.getD i zeroT) (by simp [List.getD, hi])
 exact ⟨b, off, ha, hb, hc 0 _ rfl, hc 1 _ rfl, hc 2 _ rfl, hc 3 _ rfl⟩
theorem tob_cells {W : World} {b : Nat} {t : Tr} (hb : W.heap[b]? = some (tob t)) :
  W.cell? ⟨b, 0, none⟩ = some (.int .i64 t.n) ∧ W.cell? ⟨b, 1, none⟩ = some (.int .i64 t.k) ∧ W.cell? ⟨b, 2, none⟩ = some (.int .i64 t.a) ∧ W.cell? ⟨b, 3, none⟩ = some (.int .i64 t.s) := by
 unfold tob at hb
 refine ⟨?_, ?_, ?_, ?_⟩ <;> simp [World.cell?, hb]
def sv (s : Se) (a : Option Addr) (cap : Nat) : Value := .agg #[.int .i64 s.sent, .slice a s.kept.length cap]
def so (s : Se) (a : Option Addr) (cap : Nat) : Obj := .cells #[.int .i64 s.sent, .slice a s.kept.length cap] 31
theorem Dq {W : World} {b : Nat} {s : Se} {a : Option Addr} {cap : Nat} (hb : W.heap[b]? = some (so s a cap)) : W.cell? ⟨b, 0, none⟩ = some (.int .i64 s.sent) ∧ W.cell? ⟨b, 1, none⟩ = some (.slice a s.kept.length cap) := by
 unfold so at hb
 refine ⟨?_, ?_⟩ <;> simp [World.cell?, hb]
theorem so_free {W : World} {b : Nat} {s : Se} {a : Option Addr} {cap : Nat} (hb : W.heap[b]? = some (so s a cap)) : W.frozen? ⟨b, 0, none⟩ = false ∧ W.frozen? ⟨b, 1, none⟩ = false := by
 unfold so at hb
 refine ⟨?_, ?_⟩ <;> simp [World.frozen?, hb]
theorem ret_bool {a b : Bool} (h : a = b) : Ending.returned (.bool a) = .returned (.bool b) := by rw [h]
theorem ret_int {k : IntKind} {a b : Int} (h : a = b) : Ending.returned (.int k a) = .returned (.int k b) := by rw [h]
theorem hid {p : Prop} (h : p) : Hid p := h
theorem numbers_any (m : Int) (w : World) :
  Calls Tryz.prog 63 #[.int .i64 m] w fun e w' => e = .returned (.func (.func 92) #[] #[.pointer (some ⟨w.heap.size, 0, none⟩)]) ∧ w' = w.alloc (.cells #[.int .i64 m] 3) := by
 have hmf : ∀ (fn : Fn) (first cap : Array Value) (w : World), (Instr.makeFunc fn first cap).run Tryz.prog w = .ok (.func fn first cap) w := fun _ _ _ _ => rfl
 go_enter Tryz.func63, Tryz.ntmps63
 go_wp2
 go_ret
 exact ⟨rfl, rfl⟩
theorem number_any (c : Nat) (m : Int) (w : World) (hc : w.heap[c]? = some (.cells #[.int .i64 m] 3)) (h1 : -1000000000 ≤ m) (h2 : m ≤ 1000000000) :
  Calls Tryz.prog 92 #[.pointer (some ⟨c, 0, none⟩)] w fun e w' => e = .returned (.int .i64 (m + 1)) ∧ w' = w.setCell ⟨c, 0, none⟩ (.int .i64 (m + 1)) := by
 have C1 : w.cell? ⟨c, 0, none⟩ = some (.int .i64 m) := cell_of_one hc
 have F1 : w.frozen? ⟨c, 0, none⟩ = false := free_of_one hc
 clear hc
 go_enter Tryz.func92, Tryz.ntmps92
 go_wp2
 go_ret
 exact ⟨rfl, rfl⟩
theorem wrongT_ways (t : Tr) (m : Int) :
  ((t.k != 1) = true ∧ (t.k != 2) = true ∧ (t.k != 3) = true ∧ Hid (Dl t m = 1)) ∨
  (((t.k != 1) = false ∨ ((t.k != 1) = true ∧ (t.k != 2) = false) ∨ ((t.k != 1) = true ∧ (t.k != 2) = true ∧ (t.k != 3) = false)) ∧
   ((t.a < 0 ∧ Hid (Dl t m = 3)) ∨ (0 ≤ t.a ∧ 30 ≤ t.a ∧ Hid (Dl t m = 3)) ∨ (0 ≤ t.a ∧ t.a < 30 ∧ t.s < 1 ∧ Hid (Dl t m = 3)) ∨ (0 ≤ t.a ∧ t.a < 30 ∧ 1 ≤ t.s ∧ 1000000 < t.s ∧ Hid (Dl t m = 3)) ∨
    (0 ≤ t.a ∧ t.a < 30 ∧ 1 ≤ t.s ∧ t.s ≤ 1000000 ∧ (t.n != m) = true ∧ Hid (Dl t m = 2)) ∨ (0 ≤ t.a ∧ t.a < 30 ∧ 1 ≤ t.s ∧ t.s ≤ 1000000 ∧ (t.n != m) = false ∧ Hid (Dl t m = 0)))) := by
 by_cases hk : noKind t.k
 ·exact Or.inl ⟨by simpa using hk.1, by simpa using hk.2.1, by simpa using hk.2.2, by unfold Hid Dl; rw [if_pos hk]⟩
 right
 have k' : ((t.k != 1) = false ∨ ((t.k != 1) = true ∧ (t.k != 2) = false) ∨ ((t.k != 1) = true ∧ (t.k != 2) = true ∧ (t.k != 3) = false)) := by
  unfold noKind at hk
  by_cases h1 : t.k = 1
  ·exact Or.inl (by simpa using h1)
  by_cases h2 : t.k = 2
  ·exact Or.inr (Or.inl ⟨by simpa using h1, by simpa using h2⟩)
  by_cases h3 : t.k = 3
  ·exact Or.inr (Or.inr ⟨by simpa using h1, by simpa using h2, by simpa using h3⟩)
  ·exact absurd ⟨h1, h2, h3⟩ hk
 refine ⟨k', ?_⟩
 have y : far t.a t.s → Hid (Dl t m = 3) := fun h => by unfold Hid Dl; rw [if_neg hk, if_pos h]
 by_cases h1 : t.a < 0
 ·exact Or.inl ⟨h1, y (by unfold far; omega)⟩
 by_cases h2 : 30 ≤ t.a
 ·exact Or.inr (Or.inl ⟨by omega, h2, y (by unfold far; omega)⟩)
 by_cases h3 : t.s < 1
 ·exact Or.inr (Or.inr (Or.inl ⟨by omega, by omega, h3, y (by unfold far; omega)⟩))
 by_cases h4 : 1000000 < t.s
 ·exact Or.inr (Or.inr (Or.inr (Or.inl ⟨by omega, by omega, by omega, h4, y (by unfold far; omega)⟩)))
 have hf : ¬ far t.a t.s := by unfold far; omega
 by_cases h5 : t.n = m
 ·exact Or.inr (Or.inr (Or.inr (Or.inr (Or.inr ⟨by omega, by omega, by omega, by omega, by simpa using h5, by unfold Hid Dl; rw [if_neg hk, if_neg hf, if_neg (by simpa using h5)]⟩))))
 ·exact Or.inr (Or.inr (Or.inr (Or.inr (Or.inl ⟨by omega, by omega, by omega, by omega, by simpa using h5, by unfold Hid Dl; rw [if_neg hk, if_neg hf, if_pos h5]⟩))))
theorem wrongTransfer_any (t : Tr) (m : Int) (w : World) :
  Calls Tryz.prog 64 #[tv t, .int .i64 m] w fun e w' => e = .returned (.int .i64 (Dl t m)) ∧ Below w.heap.size w w' := by
 unfold tv
 have b0 : ∀ o, Below w.heap.size w (w.alloc o) := below_alloc w
 rcases wrongT_ways t m with ⟨h1, h2, h3, H⟩ | ⟨hk, h⟩
 ·go_enter Tryz.func64, Tryz.ntmps64
  go_wp2
  go_ret
  exact ⟨ret_int H.out.symm, b0 _⟩
 ·rcases hk with k1 | ⟨k1, k2⟩ | ⟨k1, k2, k3⟩ <;> rcases h with ⟨h1, H⟩ | ⟨h1, h2, H⟩ | ⟨h1, h2, h3, H⟩ | ⟨h1, h2, h3, h4, H⟩ | ⟨h1, h2, h3, h4, h5, H⟩ | ⟨h1, h2, h3, h4, h5, H⟩
  all_goals
   go_enter Tryz.func64, Tryz.ntmps64
   go_wp2
   go_ret
   exact ⟨ret_int H.out.symm, b0 _⟩
theorem above_any (seen : Int) (w : World) :
  Calls Tryz.prog 178 #[.int .i64 seen] w fun e w' => e = .returned (.func (.func 184) #[] #[.pointer (some ⟨w.heap.size, 0, none⟩)]) ∧ w' = w.alloc (.cells #[.int .i64 seen] 3) := by
 have hmf : ∀ (fn : Fn) (first cap : Array Value) (w : World), (Instr.makeFunc fn first cap).run Tryz.prog w = .ok (.func fn first cap) w := fun _ _ _ _ => rfl
 go_enter Tryz.func178, Tryz.ntmps178
 go_wp2
 go_ret
 exact ⟨rfl, rfl⟩
theorem stays_any (t : Tr) (c : Nat) (seen : Int) (w : World) (hc : w.heap[c]? = some (.cells #[.int .i64 seen] 3)) :
  Calls Tryz.prog 184 #[tv t, .pointer (some ⟨c, 0, none⟩)] w fun e w' => e = .returned (.bool (decide (seen < t.n))) ∧ Below w.heap.size w w' := by
 have hcl : c < w.heap.size := lt_of_block hc
 have hc1 : ∀ o', (w.alloc o').cell? ⟨c, 0, none⟩ = some (.int .i64 seen) := fun o' => by rw [World.cell?_alloc_past _ _ _ hcl]; exact cell_of_one hc
 clear hc
 unfold tv
 by_cases h : seen < t.n
 all_goals
  go_enter Tryz.func184, Tryz.ntmps184
  go_wp2
  go_ret
  exact ⟨ret_bool (by simp [h]), below_alloc _ _⟩
structure Wr (w : World) (s : Se) (a : Option Addr) (cap : Nat) (c : Nat) (m : Int) (W : World) : Prop where
 bel : Below w.heap.size w W
 box : W.heap[w.heap.size]? = some (so s a cap)
 res : W.heap[w.heap.size + 1]? = some (.cells #[.int .i64 0, .int .i64 0] 47)
 num : W.heap[c]? = some (.cells #[.int .i64 m] 3)
 lt : w.heap.size + 1 < c
theorem Wr.on {w : World} {s : Se} {a : Option Addr} {cap c : Nat} {m : Int} {W W' : World} (h : Wr w s a cap c m W) (hb : Below W.heap.size W W') : Wr w s a cap c m W' :=
 ⟨h.bel.trans (hb.mono h.bel.size), (hb.block _ (lt_of_block h.box)).trans h.box, (hb.block _ (lt_of_block h.res)).trans h.res, (hb.block _ (lt_of_block h.num)).trans h.num, h.lt⟩
theorem Wr.step {w : World} {s : Se} {a : Option Addr} {cap c : Nat} {m : Int} {W : World} (h : Wr w s a cap c m W) (m' : Int) : Wr w s a cap c m' (W.setCell ⟨c, 0, none⟩ (.int .i64 m')) := by
 have l := h.lt
 exact ⟨h.bel.setCell (by simp; omega) _, (Below.heap_setCell _ _ _ _ (by simp; omega)).trans h.box, (Below.heap_setCell _ _ _ _ (by simp; omega)).trans h.res, one_setCell h.num, l⟩
theorem fault_cells {W : World} {b : Nat} {x y : Int} (h : W.heap[b]? = some (.cells #[.int .i64 x, .int .i64 y] 47)) :
  W.cell? ⟨b, 0, none⟩ = some (.int .i64 x) ∧ W.cell? ⟨b, 1, none⟩ = some (.int .i64 y) ∧ W.frozen? ⟨b, 0, none⟩ = false ∧ W.frozen? ⟨b, 1, none⟩ = false := by
 refine ⟨?_, ?_, ?_, ?_⟩ <;> simp [World.cell?, World.frozen?, h]
theorem numbers_at (m : Int) (w : World) :
  Calls Tryz.prog 63 #[.int .i64 m] w fun e w' => ∃ c, e = .returned (.func (.func 92) #[] #[.pointer (some ⟨c, 0, none⟩)]) ∧ c = w.heap.size ∧ w' = w.alloc (.cells #[.int .i64 m] 3) :=
 (numbers_any m w).mono fun _ _ ⟨h1, h2⟩ => ⟨_, h1, rfl, h2⟩
theorem wrong_any (s : Se) (a : Option Addr) (cap : Nat) (w : World) (hL : Lies kT w a cap s.kept) :
  Calls Tryz.prog 29 #[sv s a cap] w fun e w' => e = .returned (.agg #[.int .i64 (wrongS s).1, .int .i64 (wrongS s).2]) ∧ Below w.heap.size w w' := by
 have hm := hL.len
 unfold maxLen at hm
 unfold sv
 have b1 : ∀ o o', Below w.heap.size w ((w.alloc o).alloc o') := fun o o' => (below_alloc _ _).alloc (by simp) _
 by_cases hf : 40 < s.kept.length
 ·have HG := hid (wrongS_many hf)
  have hf' : (40 : Int) < s.kept.length := by omega
  go_enter Tryz.func29, Tryz.ntmps29
  go_wp2
  refine bodyPost_ret (v := .agg #[.int .i64 5, .int .i64 0]) (by simp [results, Tryz.results29, go_sem]; try rfl) rfl ⟨?_, ?_⟩
  ·rw [HG.out]
  ·repeat refine Below.setCell ?_ (by simp) _
   exact b1 _ _
 have hf0 : s.kept.length ≤ 40 := by omega
 have hf' : (s.kept.length : Int) ≤ 40 := by omega
 clear hf
 by_cases h1 : s.sent < s.kept.length
 ·have HG := hid (wrongS_range hf0 (Or.inl h1))
  go_enter Tryz.func29, Tryz.ntmps29
  go_wp2
  refine bodyPost_ret (v := .agg #[.int .i64 3, .int .i64 0]) (by simp [results, Tryz.results29, go_sem]; try rfl) rfl ⟨?_, ?_⟩
  ·rw [HG.out]
  ·repeat refine Below.setCell ?_ (by simp) _
   exact b1 _ _
 have h1' : (s.kept.length : Int) ≤ s.sent := by omega
 clear h1
 by_cases h2 : 1000000 < s.sent
 ·have HG := hid (wrongS_range hf0 (Or.inr h2))
  go_enter Tryz.func29, Tryz.ntmps29
  go_wp2
  refine bodyPost_ret (v := .agg #[.int .i64 3, .int .i64 0]) (by simp [results, Tryz.results29, go_sem]; try rfl) rfl ⟨?_, ?_⟩
  ·rw [HG.out]
  ·repeat refine Below.setCell ?_ (by simp) _
   exact b1 _ _
 have h2' : s.sent ≤ 1000000 := by omega
 clear h2
 go_enter Tryz.func29, Tryz.ntmps29
 go_wp2_with fail
 refine (numbers_at _ _).mono ?_
 rintro e w1 ⟨c, rfl, hc, rfl⟩
 have W0 : Wr w s a cap c (s.sent - s.kept.length) (((w.alloc (so s a cap)).alloc (.cells #[.int .i64 0, .int .i64 0] 47)).alloc (.cells #[.int .i64 (s.sent - s.kept.length)] 3)) := by
  have e2 : c = w.heap.size + 2 := by simpa using hc
  refine ⟨(b1 _ _).alloc (by simp; omega) _, ?_, ?_, heap_alloc_at _ _ _ (by simp; omega), by omega⟩
  ·rw [Below.heap_alloc _ _ _ (by simp; omega), Below.heap_alloc _ _ _ (by simp), heap_alloc_at _ _ _ rfl]
  ·rw [Below.heap_alloc _ _ _ (by simp), heap_alloc_at _ _ _ (by simp)]
 unfold so at W0
 clear hc b1
 generalize ((w.alloc (.cells #[.int .i64 s.sent, .slice a s.kept.length cap] 31)).alloc (.cells #[.int .i64 0, .int .i64 0] 47)).alloc (.cells #[.int .i64 (s.sent - s.kept.length)] 3) = w1 at *
 obtain ⟨B0, B1⟩ := Dq W0.box
 go_wp2
 go_loopw [34] (fun i wr => ∃ (k : Nat), k ≤ s.kept.length ∧ i = .int .i64 k ∧ Hid (Good s k) ∧ Wr w s a cap c (s.sent - s.kept.length + k) wr) (fun i _ => s.kept.length - (intOf i).toNat)
 case atStart => exact ⟨0, Nat.zero_le _, rfl, good_zero hf0 h1' h2', by simpa using W0⟩
 case round =>
  obtain ⟨k, hk, rfl, hg, hw⟩ := hrel
  clear W0 B0 B1
  generalize wr = W at *
  obtain ⟨R0, R1, F0, F1⟩ := fault_cells hw.res
  by_cases hlt : k < s.kept.length
  ·have hlt' : (k : Int) < s.kept.length := by omega
   obtain ⟨b, off, rfl, hbl, e1, e2, e3, e4⟩ := tr_cells (hL.below hw.bel) hlt
   have hW := hw.on (below_alloc W (tob (s.kept.getD k zeroT)))
   have HB := hid (fun h => hg.out.bad hlt h)
   have HN := hid (fun h => hg.out.next hlt h)
   clear hg R0 R1 F0 F1
   generalize s.kept.getD k zeroT = t at *
   go_upto_region 9 with fail
   have hT : (W.alloc (tob t)).heap[W.heap.size]? = some (tob t) := heap_alloc_at _ _ _ rfl
   unfold tob at hW hT
   have hcW := lt_of_block hw.num
   clear e1 e2 e3 e4 hw
   generalize W.alloc (.cells #[.int .i64 t.n, .int .i64 t.k, .int .i64 t.a, .int .i64 t.s] 64) = W1 at *
   obtain ⟨T0, T1, T2, T3⟩ := tob_cells hT
   have far : ∀ j, ∀ v, (W1.drew.setCell ⟨c, 0, none⟩ v).cell? ⟨W.heap.size, j, none⟩ = W1.cell? ⟨W.heap.size, j, none⟩ := fun j v => World.cell?_of_block (w := W1) (a := ⟨W.heap.size, j, none⟩) ((heap_setCell_other _ _ _ _ (by simp; omega)).trans rfl)
   have hnum := hW.num
   go_cut [6] from 39 to 43 (fun v wc => v = .int .i64 (Dl t (s.sent - s.kept.length + 1 + k)) ∧ Wr w s (some ⟨b, off, none⟩) cap c (s.sent - s.kept.length + 1 + k) wc)
   case first =>
    go_region_with (first
     | (go_at_call 92; refine (number_any c (s.sent - s.kept.length + k) _ ?_ (by omega) (by omega)).mono ?_; exact hnum; rintro e w2 ⟨rfl, rfl⟩)
     | (go_at_call 64; refine (wrongTransfer_any t _ _).mono ?_; rintro e w3 ⟨rfl, hb3⟩))
    all_goals (go_wp2_with fail; go_meet; rw [show s.sent - s.kept.length + 1 + (k : Int) = s.sent - s.kept.length + k + 1 by omega]; exact ⟨rfl, (hW.step _).on (((Below.refl _ _).drew).trans hb3)⟩)
   case rest =>
    obtain ⟨rfl, hw⟩ := hcut
    clear hW hT T0 T1 T2 T3 far hnum
    generalize wc = W2 at *
    obtain ⟨R0, R1, F0, F1⟩ := fault_cells hw.res
    by_cases h0 : Dl t (s.sent - s.kept.length + 1 + k) = 0
    ·have HG := hid (HN.out h0)
     have hne : (Dl t (s.sent - s.kept.length + 1 + k) != 0) = false := by simpa using h0
     clear h0 HB HN
     generalize Dl t (s.sent - s.kept.length + 1 + k) = r at *
     go_wp2
     go_roundw
     case rel => exact ⟨k + 1, by omega, by go_num, HG, by rw [show s.sent - s.kept.length + ((k + 1 : Nat) : Int) = s.sent - s.kept.length + 1 + k by omega]; exact hw⟩
     case measure => simp [intOf]; omega
    ·have HG := hid (HB.out h0)
     have hne : (Dl t (s.sent - s.kept.length + 1 + k) != 0) = true := by simpa using h0
     clear h0 HB HN
     generalize Dl t (s.sent - s.kept.length + 1 + k) = r at *
     have bb := hw.bel
     go_wp2
     refine bodyPost_ret (v := .agg #[.int .i64 r, .int .i64 k]) (by simp [results, Tryz.results29, go_sem, R0, R1]; try rfl) rfl ⟨?_, ?_⟩
     ·rw [HG.out]
     ·repeat refine Below.setCell ?_ (by simp) _
      exact bb
  ·have HG := hid (hg.out.done (by omega))
   clear hg
   have bb := hw.bel
   go_wp2
   refine bodyPost_ret (v := .agg #[.int .i64 0, .int .i64 0]) (by simp [results, Tryz.results29, go_sem, R0, R1]; try rfl) rfl ⟨?_, ?_⟩
   ·rw [HG.out]
   ·repeat refine Below.setCell ?_ (by simp) _
    exact bb
