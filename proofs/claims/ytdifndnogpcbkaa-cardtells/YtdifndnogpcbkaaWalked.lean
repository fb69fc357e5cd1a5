/- The walk of the document's Recent. -/
import Derived.Test.YtdifndnogpcbkaaWalke
namespace Go.Proofs.Ytdifndnogpcbkaa
open Go.RowKit

set_option maxHeartbeats 2000000 in
theorem refRecent_any (p : Pa) (a : Option Addr) (cap : Nat) (L : List (Int × Int)) (time : Int) (w : World) (hL : Ents w a L) (h1 : 1 ≤ p.t) (h2 : p.t ≤ 1000000) (h3 : 0 ≤ time) (h4 : time ≤ 1000000)
    (hreach : L.length * 16 ≤ 140737488351232) :
    Calls Try.prog 42 #[pv p, .slice a L.length cap, .int .i64 time] w (Made w (recent (time - p.t) L)) := by
  obtain ⟨i0, hi, hz0, hz1, hz2⟩ := info_parts infoUse
  obtain ⟨t, pc, ps⟩ := p
  dsimp only at h1 h2 ⊢
  unfold pv
  dsimp only
  have b1 : Below w.heap.size w (w.alloc (.cells #[.int .i64 t, .int .i64 pc, .int .i64 ps] 55)) := (Below.refl _ _).alloc (Nat.le_refl _) _
  obtain ⟨hm, hL⟩ := hL
  unfold maxLen at hm
  go_enter Try.func42, Try.ntmps42
  go_wp2
  go_loopw [7, 12] (fun v i wr => ∃ k : Nat, k ≤ L.length ∧ i = .int .i64 k ∧ wr.ownsRow (w.heap.size + 1) 58 2 v (recent (time - t) (L.take k)).length (flat (recent (time - t) (L.take k))) ∧ Below (w.heap.size + 1) (w.alloc (.cells #[.int .i64 t, .int .i64 pc, .int .i64 ps] 55)) wr) (fun _ i _ => L.length - (intOf i).toNat)
  case atStart => exact ⟨0, Nat.zero_le _, rfl, World.ownsRow_nil _ _ _ _, Below.refl _ _⟩
  case round =>
    obtain ⟨k, hk, rfl, hown, hb⟩ := hrel
    have hsw := hb.size
    simp only [World.size_alloc] at hsw
    have bw := b1.trans (hb.mono (by omega))
    by_cases hlt : k < L.length
    · rcases hL with rfl | ⟨b, off, rfl, hbl, hcell⟩
      · simp at hlt
      obtain ⟨c1, c2⟩ := hcell k hlt
      have hlt' : (k : Int) < L.length := by omega
      have e1 := (bw.cell (p := ⟨b, off + k * 2, none⟩) hbl).trans c1
      have e2 := (bw.cell (p := ⟨b, off + k * 2 + 1, none⟩) hbl).trans c2
      have e3 : ∀ o', (wr.alloc o').cell? ⟨w.heap.size, 0, none⟩ = some (.int .i64 t) := fun o' => (World.cell?_alloc_past _ _ _ (by omega)).trans ((hb.cell (p := ⟨w.heap.size, 0, none⟩) (by simp)).trans (by rw [World.cell?_alloc_at _ _ _ _ rfl]; rfl))
      have HH := hid (recent_hit (o := time - t) hlt)
      have HM := hid (recent_miss (o := time - t) hlt)
      have hle := recent_take_le' (time - t) L k
      clear c1 c2 hcell
      generalize hx : L.getD k (0, 0) = x at *
      clear hx
      by_cases hq : time - t < x.1
      · have HH' := hid (HH.out hq)
        have hlt2 := recent_take_le' (time - t) L (k + 1)
        rw [HH'.out] at hlt2
        simp at hlt2
        clear HH HM
        go_wp2_with (at_builtin; refine wpList_append_own _ rfl _ _ 56 rfl (w.heap.size + 1) 58 i0 (.agg #[.int .i64 0, .int .i64 0]) 2 16 Try.underlying56 hi hz0 hz1 hz2 rfl (by decide) _ _ _ rfl ((hown.alloc _).alloc _) ⟨wr.heap.size + 1, 0, none⟩ 1 1 [.int .i64 x.1, .int .i64 x.2] rfl rfl ?c1 ?c2 ?c3 ?c4 ?c5 ?_)
        case c1 => simpa only [World.size_alloc] using cell_two_new (wr.alloc (.cells #[.int .i64 x.1, .int .i64 x.2] 58)) (.int .i64 x.1) (.int .i64 x.2) 58
        case c2 => intro u hu; simp at hu; rcases hu with rfl | rfl <;> rfl
        case c3 => unfold maxLen; omega
        case c4 => omega
        case c5 => simp; omega
        intro v' w3 hown' hgrow _
        have hb' : Below (w.heap.size + 1) (w.alloc (.cells #[.int .i64 t, .int .i64 pc, .int .i64 ps] 55)) w3 := ((hb.alloc hsw _).alloc (by simp; omega) _).grown hgrow (by simp; omega) (ownBlock_ge hown)
        clear hgrow hown
        go_wp2
        go_roundw
        case rel => exact ⟨k + 1, by omega, by go_num, by rw [HH'.out, flat_snoc, List.length_append]; exact hown', hb'⟩
        case measure => simp [intOf]; omega
      · have HM' := hid (HM.out hq)
        clear HH HM
        go_wp2
        go_roundw
        case rel => exact ⟨k + 1, by omega, by go_num, by rw [HM'.out]; exact hown.alloc _, hb.alloc hsw _⟩
        case measure => simp [intOf]; omega
    · have HA := hid (recent_all (o := time - t) (L := L) (k := k) (by omega))
      go_wp2
      go_ret
      exact ⟨_, rfl, ownsRow_mono (by rw [← HA.out]; exact hown) (by omega), bw⟩
end Go.Proofs.Ytdifndnogpcbkaa
