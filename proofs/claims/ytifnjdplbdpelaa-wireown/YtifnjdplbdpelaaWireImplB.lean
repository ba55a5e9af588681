/- What own, putNumber, Num and Text of package wire answer. No statement of the seat is proved here. -/
import Derived.Test.YtifnjdplbdpelaaWireImplA
import Derived.Test.YtifnjdplbdpelaaWireRoom
namespace Go.Proofs.Ytifnjdplbdpelaa
open Go.RowKit Go.Shelf Go.Lib
attribute [local go_sem] Oper.semAt_some

theorem Room.own_from {w0 : World} {t : TypeId} {g C B : Nat} {β : Type} (hB : w0.heap.size ≤ B) (f : β → List UInt8) : OwnFrom B (fun (s : β) W => Room w0 t g C (f s) W) := fun s X Y row h hg hr =>
  h.to (h.bb.grown hg h.bb.size fun k e => Nat.le_trans hB (hr k e).1) (hg.block g h.lt fun e => by
    obtain ⟨_, o, ho, hc⟩ := hr g e.symm
    obtain ⟨cur, h1, _⟩ := h.own
    rw [h1] at ho
    cases ho
    cases hc)

set_option maxHeartbeats 1000000 in
/-- Bytes in memory of their own, with room. -/
theorem wOwn_any (u : Value) (bs : List UInt8) (n : Nat) (w : World) (h : Bytes w u bs) (hl : bs.length + n ≤ 1073741824) : Calls Try.prog 25 #[u, .int .i64 (n : Int)] w fun e w' => e = .returned (.slice (some ⟨w.heap.size, 0, none⟩) bs.length (bs.length + n)) ∧ Room w 5 w.heap.size (bs.length + n) bs w' := by
  obtain ⟨a, c, rfl, hlc⟩ := h.form
  obtain ⟨k, hk⟩ : ∃ k, k = bs.length := ⟨_, rfl⟩
  rw [← hk] at h hlc hl ⊢
  obtain ⟨m, hm⟩ : ∃ m, m = k + n := ⟨_, rfl⟩
  have hmm : ((k : Nat) : Int) + ((n : Nat) : Int) = ((m : Nat) : Int) := by omega
  rw [← hm] at hl ⊢
  have hm30 : ((m : Nat) : Int) ≤ 1073741824 := by omega
  have hkm : k ≤ m := by omega
  obtain ⟨Z, hZ, hrun⟩ := wMakeRoom m hl
  have hR := Room.made w hZ hl
  obtain ⟨i, hi, hz0, hz1, hz2⟩ := infoByte
  obtain ⟨W', hr, hR', _⟩ := hR.append (P := Try.prog) (h.alloc (.cells Z 5)) (by rw [← hk]; simp; exact hkm) 22 22 5 i Try.underlying22 hi hz1
  simp only [List.length_nil, Nat.zero_add, List.nil_append, ← hk] at hr hR'
  have HR := hide hR'
  have HH := hide hr
  clear hR hR' hr hk h hlc hm hl
  go_enter Try.func25, Try.ntmps25
  go_wp2_with (at_builtin; refine wpList_append_run rfl _ _ 22 22 rfl _ _ _ rfl rfl (unhide HH) ?_)
  go_wp2
  go_ret
  exact ⟨rfl, unhide HR⟩

set_option maxRecDepth 100000 in
set_option maxHeartbeats 2000000 in
/-- A number's bytes are put behind bytes that have room. -/
theorem wPutNumber_any (w0 : World) (t : TypeId) (g C : Nat) (bs : List UInt8) (n : Int) (hn : InR n) (w : World) (h : Room w0 t g C bs w) (hroom : bs.length + (numB n).length ≤ C) (hl : bs.length ≤ 1073741824) :
    Calls Try.prog 24 #[.slice (some ⟨g, 0, none⟩) bs.length C, .int .i64 n] w fun e w' => e = .returned (.slice (some ⟨g, 0, none⟩) (bs.length + (numB n).length) C) ∧ Room w0 t g C (bs ++ numB n) w' := by
  obtain ⟨k, hk⟩ : ∃ k, k = bs.length := ⟨_, rfl⟩
  rw [← hk] at hroom hl ⊢
  obtain ⟨w2, hw2⟩ : ∃ w2, w2 = (w.alloc (.cells #[.slice (some ⟨g, 0, none⟩) k C] 22)).alloc (.cells #[.int .u64 ((zz n : Nat) : Int)] 49) := ⟨_, rfl⟩
  have HR2 : Hid (Room w0 t g C bs w2) := by rw [hw2]; exact (h.alloc _).alloc _
  have HSZ : Hid (w2.heap.size = w.heap.size + 2) := by rw [hw2]; show _ = _; simp
  have c0 : w2.cell? ⟨w.heap.size, 0, none⟩ = some (.slice (some ⟨g, 0, none⟩) k C) ∧ w2.frozen? ⟨w.heap.size, 0, none⟩ = false := by
    have c := wboxNew w (.slice (some ⟨g, 0, none⟩) k C) 22
    rw [hw2]
    exact ⟨wboxKept _ c.1, wboxFrozen _ c.1 c.2⟩
  have c1 : w2.cell? ⟨w.heap.size + 1, 0, none⟩ = some (.int .u64 ((zz n : Nat) : Int)) := by
    have c := wboxNew (w.alloc (.cells #[.slice (some ⟨g, 0, none⟩) k C] 22)) (.int .u64 ((zz n : Nat) : Int)) 49
    rw [World.size_alloc] at c
    rw [hw2]
    exact c.1
  have hgw := h.lt
  have h0w := h.new
  have HG := hide hgw
  have H0 := hide h0w
  have C0 := hide c0
  have C1 := hide c1
  have HW2 := hide hw2
  have HI := hide hn
  have HT := hide (numB_ten hn)
  have HK := hide hk
  have HRM := hide hroom
  have HL := hide hl
  clear c0 c1 hw2 hn h hk hroom hl hgw h0w
  refine (callsIn_wide (n := 3)).1 ?_
  refine callsIn_of_wp_marks Try.func24 rfl trivial ?_ rfl
  simp only [Try.ntmps24, List.size_toArray, List.length_cons, List.length_nil, Nat.reduceAdd, Nat.reduceSub, Array.replicate_succ, Array.replicate_zero, List.push_toArray, List.append_toArray, List.nil_append, List.cons_append]
  gi_wp2
  refine ⟨trivial, (callsIn_wide.2 (folded_any n (unhide HI) _)).mono ?_⟩
  rintro e w' ⟨rfl, rfl⟩
  gi_wp2
  refine ⟨trivial, (callsIn_wide.2 (groups_any (zz n) _)).mono ?_⟩
  rintro e w' ⟨rfl, rfl⟩
  rw [← unhide HW2]
  simp only [World.size_alloc]
  gi_wp2
  have hsz := unhide HSZ
  have hgw := unhide HG
  have h0w := unhide H0
  refine wpIn_rangeFunc_ownF rfl (by omega) (gf := 29) (lb := #[.pointer (some ⟨w.heap.size + 1, 0, none⟩)]) rfl trivial (enters_of Try.func29 (by kernel_rfl) rfl)
    (groups_stops (3 - 1) (by omega) (w.heap.size + 1) (zz n) (zz_lt (unhide HI)) w2 (unhide C1)) (fun _ _ => trivial) (fun _ _ _ _ _ _ _ _ => trivial) (Below.refl _ _) (fun _ => rfl)
    (fun pre W => (W.cell? ⟨w.heap.size, 0, none⟩ = some (.slice (some ⟨g, 0, none⟩) (k + pre.length) C) ∧ W.frozen? ⟨w.heap.size, 0, none⟩ = false) ∧ Room w0 t g C (bs ++ pre) W)
    (fun _ _ _ => False)
    (OwnFrom.and (Own.from (fun s A B row hs hg hr => ⟨cell_kept hs.1 hg hr, (frozen_kept hs.1 hg hr).trans hs.2⟩) _) (Room.own_from (by omega) _))
    (fun _ _ _ _ _ hs _ _ => hs)
    ⟨unhide C0, by rw [List.append_nil]; exact unhide HR2⟩
    (fun x => { tmps := #[.slice (some ⟨g, 0, none⟩) k C, .int .i64 n, .pointer (some ⟨w.heap.size, 0, none⟩), undef, .slice none 0 0, .int .u8 ((x.toNat : Nat) : Int), .int .i64 n, .int .u64 ((zz n : Nat) : Int), .func (.func 29) #[] #[.pointer (some ⟨w.heap.size + 1, 0, none⟩)], .int .u8 ((x.toNat : Nat) : Int), undef, undef, undef, undef, undef], defers := [] }) ?assign ?body ?done ?stop
  case assign =>
    intro l x W K hK
    gi_wp2
    simpa [bv] using hK
  case body =>
    rintro l pre x W ⟨⟨hc, hf⟩, hR⟩ hN
    obtain ⟨i, hi, hz0, hz1, hz2⟩ := infoByte
    have hlen : (bs ++ pre).length = k + pre.length := by rw [List.length_append, ← unhide HK]
    have hNN : pre.length < (numB n).length := hN
    obtain ⟨W', hr, hR', hg⟩ := (hR.alloc (.cells #[.int .u8 (x.toNat : Nat)] 5)).append (P := Try.prog) (bytes_one W x) (by rw [hlen]; have := unhide HRM; simp; omega) 22 22 5 i Try.underlying22 hi hz1
    have hBN : w.heap.size < W.heap.size := World.block_lt_of_cell? W ⟨w.heap.size, 0, none⟩ hc
    have hcA := wboxKept (.cells #[.int .u8 (x.toNat : Nat)] 5) hc
    have hfA := wboxFrozen (.cells #[.int .u8 (x.toNat : Nat)] 5) hc hf
    have hgb : W'.heap[w.heap.size]? = (W.alloc (.cells #[.int .u8 (x.toNat : Nat)] 5)).heap[w.heap.size]? := hg.block _ (by simp; omega) (by simp; omega)
    have hc1 : W'.cell? ⟨w.heap.size, 0, none⟩ = some (.slice (some ⟨g, 0, none⟩) (k + pre.length) C) := (World.cell?_of_block (a := ⟨w.heap.size, 0, none⟩) hgb).trans hcA
    have hf1 : W'.frozen? ⟨w.heap.size, 0, none⟩ = false := (World.frozen?_of_block (a := ⟨w.heap.size, 0, none⟩) hgb).trans hfA
    have HKO : Hid (KeepsOthers W W') := (KeepsOthers.alloc _ _).trans (KeepsOthers.of_grownBy hg fun j o e ho => by
      cases e
      obtain ⟨cur, h1, _⟩ := (hR.alloc (.cells #[.int .u8 (x.toNat : Nat)] 5)).own
      rw [h1] at ho
      cases ho
      rfl)
    simp only [List.length_singleton, hlen] at hr
    have HR := hide hR'
    have HRN := hide hr
    have HBW := hide hR'.lt
    clear hR hR' hr hg hcA hfA hgb hlen
    gi_wp2_with (gi_at_builtin; refine wpListIn_append_run rfl _ _ 22 22 rfl _ _ _ rfl rfl (unhide HRN) ?_)
    gi_wp2
    show KeepsOthers W (W'.setCell ⟨w.heap.size, 0, none⟩ _) ∧ True ∧ (_ ∧ _) ∧ _
    refine ⟨(unhide HKO).trans (KeepsOthers.setCell _ _ _), trivial, ⟨?_, ?_⟩, ?_⟩
    · rw [List.length_append, ← Nat.add_assoc]; exact World.cell?_setCell_same' _ _ _ (by rw [hc1]; rfl)
    · rw [World.frozen?_setCell]; exact hf1
    · rw [← List.append_assoc]; exact (unhide HR).set (by show w.heap.size ≠ g; omega) (by show w0.heap.size ≤ w.heap.size; omega) _
  case done =>
    rintro D ys W hD rfl ⟨⟨hc, _⟩, hR⟩ hK
    have HR := hide hR
    clear hR
    have HLN : Hid (k + (grp (zz n)).length = k + (numB n).length) := rfl
    gi_wp2
    refine ⟨by simp, .inl ⟨_, _, rfl, run_takeDeferred hK, ?_⟩⟩
    refine ⟨_, results_tmp rfl _ _ _, ?_⟩
    exact ⟨rfl, (unhide HR).to ((unhide HR).bb.trans (belowK_b (w := w2) (by omega) W D _ _ (by omega) hK rfl rfl)) (World.putObj_heap_other (by omega))⟩
  case stop =>
    rintro D c pre W _ _ h _
    exact h.elim
end Go.Proofs.Ytifnjdplbdpelaa
