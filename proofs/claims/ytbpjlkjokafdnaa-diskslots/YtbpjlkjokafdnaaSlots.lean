/- DiskSlots: the walk of the statement's function. -/
import Derived.Test.YtbpjlkjokafdnaaEnv
import Derived.BigRegion
import Derived.Deep.RegionLaw
namespace Go.Proofs.Ytbpjlkjokafdnaa
open Go.RowKit

/-- A disk without bytes, its slots safe xa f says and shown xa g says. -/
def slA (f g : Nat → List UInt8) : AD := { AD.new 0 with sf := f, sh := g }
theorem slA_new : AD.new 0 = slA (fun _ => List.replicate 32 0) (fun _ => List.replicate 32 0) := rfl
theorem slA_tick (f g : Nat → List UInt8) : (slA f g).tick = slA f g := tick_neg (by show ¬ (0 : Int) < -1; omega)
theorem slA_wrote (f g : Nat → List UInt8) (i : Nat) (x : List UInt8) : (slA f g).tick.wrote i x = slA f (upd g i x) := by rw [slA_tick]; rfl
theorem slA_head (f g : Nat → List UInt8) : (slA f g).tick.syncedHead = slA (upd (upd f 0 (g 0)) 1 (g 1)) g := by rw [slA_tick]; rfl
theorem slA_sh (f g : Nat → List UInt8) : (slA f g).sh = g := rfl
theorem slA_crash (f g : Nat → List UInt8) (k : Nat → Int) (i : Nat) (hi : i < 2) : ((slA f g).crashed k).sh i = (g i).take (keepN (k (2 + i)) 32) ++ (f i).drop (keepN (k (2 + i)) 32) := by
  rcases (show i = 0 ∨ i = 1 by omega) with rfl | rfl
  · unfold AD.crashed AD.crashSlot AD.crashSeg slA
    simp [upd]
  · unfold AD.crashed AD.crashSlot AD.crashSeg slA
    simp [upd]

theorem slots_state {w1 W : World} {p i : Nat} {D : Nat → Prop} {xa xb : List UInt8} (h : Now D p (slA (upd (upd (fun _ => List.replicate 32 0) 0 ((upd (fun _ => List.replicate 32 0) i xa) 0)) 1 ((upd (fun _ => List.replicate 32 0) i xa) 1)) (upd (upd (fun _ => List.replicate 32 0) i xa) i xb)) w1 W) (hi : i < 2) :
    ∃ F G, F i = xa ∧ G i = xb ∧ F (1 - i) = List.replicate 32 0 ∧ G (1 - i) = List.replicate 32 0 ∧ Now D p (slA F G) w1 W := by
  refine ⟨_, _, ?_, ?_, ?_, ?_, h⟩
  · rcases (show i = 0 ∨ i = 1 by omega) with rfl | rfl <;> simp [upd]
  · exact upd_same _ _ _
  · rcases (show i = 0 ∨ i = 1 by omega) with rfl | rfl <;> simp [upd]
  · rw [upd_upd, upd_other _ _ (by omega)]

theorem slots_synced {w1 W : World} {p i : Nat} {D : Nat → Prop} {F G : Nat → List UInt8} {xb y : List UInt8} (h : Now D p (slA (upd (upd F 0 (G 0)) 1 (G 1)) G) w1 W) (hi : i < 2) (hg : G i = xb) (ho : G (1 - i) = y) :
    ∃ F', F' i = xb ∧ F' (1 - i) = y ∧ Now D p (slA F' G) w1 W := by
  refine ⟨_, ?_, ?_, h⟩
  · subst hg; rcases (show i = 0 ∨ i = 1 by omega) with rfl | rfl <;> simp [upd]
  · subst ho; rcases (show i = 0 ∨ i = 1 by omega) with rfl | rfl <;> simp [upd]

theorem box_bytes {w : World} {q : Nat} {cs : Array Value} {t : TypeId} {xb : List UInt8} (hq : w.heap[q]? = some (.cells cs t (0, 0))) (hc : cs = (xb.map bv).toArray) (hl : xb.length = 32) : Bytes w (.slice (some ⟨q, 0, none⟩) 32 32) xb := by
  subst hc
  refine .inr ⟨⟨q, 0, none⟩, 32, by rw [hl], by omega, by unfold maxLen; omega, fun j x hx => ?_⟩
  rw [Addr.add_mid, Nat.zero_add, cell_of_row _ _ _ _ _ _ hq]
  simpa using hx

theorem make32 : ∃ Z : Array Value, Z = ((List.replicate 32 (0 : UInt8)).map bv).toArray ∧ ∀ W : World, (Instr.makeSlice 28 (.int .i64 32) (.int .i64 32)).run Try.prog W = .ok (.slice (some ⟨W.heap.size, 0, none⟩) 32 32) (W.alloc (.cells Z 5)) := by
  obtain ⟨i, hi, hz0, hz1, hz2⟩ := infoByte
  refine ⟨madeCells (Value.int .u8 0).cells (Int.toNat 32 * i.size), ?_, fun W => ?_⟩
  · rw [hz1]
    apply Array.ext'
    rw [List.map_replicate]
    exact toList_madeCells_one _ _
  · exact run_make (P := Try.prog) W 28 5 i (.int .u8 0) Try.underlying28 hi hz0 .i64 .i64 32 32 (by omega) (by omega) (by rw [hz2]; omega) (by omega)

theorem slots_app1 {w8 w9 : World} {u9 : Value} {xs : List UInt8} {e : TypeId} (r1 : w9.ownsRow 0 e 1 u9 ([] ++ xs).length (([] ++ xs).map bv)) (r2 : (w8.alloc (.cells #[] e)).drew.grownBy w9 (Value.slice (some ⟨w8.heap.size, 0, none⟩) 0 0).ownBlock)
    (r3 : u9.ownBlock = (Value.slice (some ⟨w8.heap.size, 0, none⟩) 0 0).ownBlock ∨ ∃ k, u9.ownBlock = some k ∧ (w8.alloc (.cells #[] e)).drew.heap.size ≤ k) :
    Hid (Below w8.heap.size w8 w9) ∧ Hid (∀ k, u9.ownBlock = some k → w8.heap.size ≤ k) ∧ Hid (w9.ownsRow 0 e 1 u9 xs.length (xs.map bv)) := by
  refine ⟨(((Below.refl _ _).alloc (Nat.le_refl _) _).drew).grown r2 (by simp) (fun k hk => by simp [Value.ownBlock] at hk; omega), fun k hk => ?_, r1⟩
  rcases r3 with r3 | ⟨k', r3, hle⟩
  · rw [r3] at hk; simp [Value.ownBlock] at hk; omega
  · rw [r3] at hk; cases hk; simp at hle; omega

theorem slots_app2 {w8 w9 w10 : World} {u9 u10 : Value} {xs ys : List UInt8} {e : TypeId} (hb : Below w8.heap.size w8 w9) (hv : ∀ k, u9.ownBlock = some k → w8.heap.size ≤ k) (r1 : w10.ownsRow 0 e 1 u10 (xs ++ ys).length ((xs ++ ys).map bv)) (r2 : w9.grownBy w10 u9.ownBlock)
    (r3 : u10.ownBlock = u9.ownBlock ∨ ∃ k, u10.ownBlock = some k ∧ w9.heap.size ≤ k) :
    Hid (Below w8.heap.size w8 w10) ∧ Hid (∀ k, u10.ownBlock = some k → w8.heap.size ≤ k ∧ k < w10.heap.size) ∧ Hid (Bytes w10 u10 (xs ++ ys)) := by
  refine ⟨hb.grown r2 hb.size (fun k hk => hv k hk), fun k hk => ⟨?_, (r1.lt k hk).2⟩, bytes_of_owns r1⟩
  rcases r3 with r3 | ⟨k', r3, hle⟩
  · rw [r3] at hk; exact hv k hk
  · rw [r3] at hk; cases hk; have := hb.size; omega

set_option maxRecDepth 100000 in
set_option maxHeartbeats 4000000 in
theorem diskSlots_any (ca cb : Array Value) (xa xb : List UInt8) (hca : ca = (xa.map bv).toArray) (hcb : cb = (xb.map bv).toArray) (la : xa.length = 32) (lb : xb.length = 32) (sl : Int) (hs0 : 0 ≤ sl) (hs1 : sl ≤ 255) (sy : Bool) (k0 k1 k2 k3 : Int) (w : World) :
    Calls Try.prog 7 #[.agg ca, .agg cb, .int .u8 sl, .bool sy, .agg #[.int .i64 k0, .int .i64 k1, .int .i64 k2, .int .i64 k3]] w fun e w' => e = .returned (.bool true) ∧ Below w.heap.size w w' := by
  obtain ⟨p, hp⟩ : ∃ p, p = w.heap.size + 3 := ⟨_, rfl⟩
  have HP := hide hp
  have HCA := hide hca
  have HCB := hide hcb
  have LA := hide la
  have LB := hide lb
  clear hp hca hcb la lb
  go_enter Try.func7, Try.ntmps7
  go_wp2_with fail
  refine (new_at 0 (by omega) (by omega) _ p (by simpa using (unhide HP).symm)).mono ?_
  rintro e w1 ⟨rfl, hN, hz1, hb1⟩
  have hp1 := unhide HP
  have hqa : w1.heap[w.heap.size]? = some (.cells ca 59 (0, 0)) := by
    rw [hb1.block _ (by omega), Below.heap_alloc _ _ _ (by simp; omega), Below.heap_alloc _ _ _ (by simp)]; exact heap_alloc_new w _
  have hqb : w1.heap[w.heap.size + 1]? = some (.cells cb 59 (0, 0)) := by
    rw [hb1.block _ (by omega), Below.heap_alloc _ _ _ (by simp)]
    have := heap_alloc_new (w.alloc (.cells ca 59)) (.cells cb 59)
    have e : (w.alloc (.cells ca 59)).heap.size = w.heap.size + 1 := by simp
    rw [e] at this; exact this
  have hqk : w1.heap[w.heap.size + 2]? = some (.cells #[.int .i64 k0, .int .i64 k1, .int .i64 k2, .int .i64 k3] 35 (0, 0)) := by
    rw [hb1.block _ (by omega)]
    have := heap_alloc_new ((w.alloc (.cells ca 59)).alloc (.cells cb 59)) (.cells #[.int .i64 k0, .int .i64 k1, .int .i64 k2, .int .i64 k3] 35)
    have e : ((w.alloc (.cells ca 59)).alloc (.cells cb 59)).heap.size = w.heap.size + 2 := by simp
    rw [e] at this; exact this
  have BA := hide (box_bytes hqa (unhide HCA) (unhide LA))
  have BB := hide (box_bytes hqb (unhide HCB) (unhide LB))
  have OA : Hid (Off (fun k => k = p) w1 (.slice (some ⟨w.heap.size, 0, none⟩) 32 32) xa) := fun hb k hk => ⟨fun e => by have e' : k = p := e; simp [Value.ownBlock] at hk; omega, (unhide BA).lt hb k hk⟩
  have OB : Hid (Off (fun k => k = p) w1 (.slice (some ⟨w.heap.size + 1, 0, none⟩) 32 32) xb) := fun hb k hk => ⟨fun e => by have e' : k = p := e; simp [Value.ownBlock] at hk; omega, (unhide BB).lt hb k hk⟩
  have K0 : Hid (w1.cell? ⟨w.heap.size + 1 + 1, 0, none⟩ = some (.int .i64 k0)) := cell_of_row _ _ 0 _ _ _ hqk
  have K1 : Hid (w1.cell? ⟨w.heap.size + 1 + 1, 1, none⟩ = some (.int .i64 k1)) := cell_of_row _ _ 1 _ _ _ hqk
  have K2 : Hid (w1.cell? ⟨w.heap.size + 1 + 1, 2, none⟩ = some (.int .i64 k2)) := cell_of_row _ _ 2 _ _ _ hqk
  have K3 : Hid (w1.cell? ⟨w.heap.size + 1 + 1, 3, none⟩ = some (.int .i64 k3)) := cell_of_row _ _ 3 _ _ _ hqk
  have NK : Hid (¬ (fun k => k = p) (w.heap.size + 1 + 1)) := by show ¬ w.heap.size + 1 + 1 = p; omega
  have HB : Hid (Below w.heap.size w w1) := ((((Below.refl _ w).alloc (Nat.le_refl _) _).alloc (by simp) _).alloc (by simp; omega) _).trans (hb1.mono (by omega))
  rw [slA_new] at hN
  have HZ := hide hz1
  have HN : Hid (Now (fun k => k = p) p (slA (fun _ => List.replicate 32 0) (fun _ => List.replicate 32 0)) w1 (w1.drewN 1)) := hN.drewN 1
  clear hN hz1 hb1 hqa hqb hqk hp1 HCA HCB
  obtain ⟨i, hi, hi2⟩ : ∃ i : Nat, sl % 2 = i ∧ i < 2 := ⟨(sl % 2).toNat, by omega, by omega⟩
  have HI := hide hi
  clear hi
  go_wp2_with fail
  rw [unhide HI]
  have tok1 : True := trivial
  have tok2 : True := trivial
  go_region_with (first
    | (go_at_call 28; have _t := tok1; clear tok1; refine (nWrite_ok (unhide HN) rfl (by show (-1 : Int) ≠ 0; omega) i hi2 _ _ xa (unhide BA) (unhide OA) (unhide LA)).mono ?_; rintro e w2 ⟨rfl, hN⟩; rw [slA_wrote] at hN; clear HN; have HN := hide hN; clear hN)
    | (go_at_call 28; refine (nWrite_ok (unhide HN) rfl (by show (-1 : Int) ≠ 0; omega) i hi2 _ _ xb (unhide BB) (unhide OB) (unhide LB)).mono ?_; rintro e w3 ⟨rfl, hN⟩; rw [slA_wrote] at hN; clear HN; have HN := hide hN; clear hN)
    | (go_at_call 27; refine (nSyncHead_ok (unhide HN) rfl (by show (-1 : Int) ≠ 0; omega)).mono ?_; rintro e w4 ⟨rfl, hN⟩; rw [slA_head] at hN; clear HN; have HN := hide hN; clear hN)
    | (go_at_call 17; refine (nHead_ok (unhide HN) rfl i hi2).mono ?_; rintro e w5 ⟨r, rfl, hF, hN⟩; rw [slA_sh, upd_same] at hF; have HF := hide hF.1; clear HN hF; have HN := hide hN; clear hN)
    | (go_at_call 18; have _t := tok2; clear tok2; refine (same_any _ _ xa xa _ (unhide HF) ((unhide HN).bytes (unhide BA) (unhide OA).not)).mono ?_; rintro e w' ⟨rfl, rfl⟩; rw [decide_eq_true (rfl : xa = xa)]; clear HF)
    | (go_at_call 18; refine (same_any _ _ xb xb _ (unhide HF) ((unhide HN).bytes (unhide BB) (unhide OB).not)).mono ?_; rintro e w' ⟨rfl, rfl⟩; rw [decide_eq_true (rfl : xb = xb)]; clear HF))
  obtain ⟨F, G, hFi, hGi, hFo, hGo, hN⟩ := slots_state (unhide HN) hi2
  clear HN
  have HF := hide hFi
  have HG := hide hGi
  have HFO := hide hFo
  have HGO := hide hGo
  have HN := hide hN
  clear hFi hGi hFo hGo hN
  cases sy
  · go_wp2_with fail
    refine (nWrite_arg (unhide HN) rfl _ _ 31 32 (.inr ⟨by omega, by omega, by omega⟩)).mono ?_
    rintro e w6 ⟨rfl, hN⟩
    clear HN
    have HN := hide hN
    clear hN
    go_wp2_with fail
    refine (nWrite_arg (unhide HN) rfl _ _ 32 32 (.inl (.inr (by omega)))).mono ?_
    rintro e w7 ⟨rfl, hN⟩
    have z0 := hN.cell (unhide K0) (unhide NK)
    have z1 := hN.cell (unhide K1) (unhide NK)
    have z2 := hN.cell (unhide K2) (unhide NK)
    have z3 := hN.cell (unhide K3) (unhide NK)
    clear HN
    have HN := hide hN
    clear hN
    go_wp2_with fail
    refine (nCrash (unhide HN) k0 k1 k2 k3).mono ?_
    rintro e w8 ⟨rfl, hN⟩
    clear z0 z1 z2 z3 HN
    have uk : w8.cell? ⟨w.heap.size + 1 + 1, 2 + i, none⟩ = some (.int .i64 (kp k0 k1 k2 k3 (2 + i))) := by
      rcases (show i = 0 ∨ i = 1 by omega) with rfl | rfl
      · exact hN.cell (unhide K2) (unhide NK)
      · exact hN.cell (unhide K3) (unhide NK)
    obtain ⟨kk, hkk⟩ : ∃ kk, kk = kp k0 k1 k2 k3 (2 + i) := ⟨_, rfl⟩
    rw [← hkk] at uk
    have HKK := hide hkk
    clear hkk
    have hi0 : (0 : Int) ≤ (i : Int) := by omega
    have hi3 : (i : Int) < 2 := by omega
    have HN := hide hN
    clear hN
    go_wp2_with (first
      | refine wpList_max2 rfl (.tmp 83) (.const (.int .i64 0)) 3 3 rfl _ _ _ _ rfl rfl ?_
      | refine wpList_min2 rfl (.tmp 84) (.const (.int .i64 32)) 3 3 rfl _ _ _ _ rfl rfl ?_)
    have HT := hide (keepN_eq kk 32)
    have htl := keepN_le kk 32
    have HT2 : Hid (min (max kk 0) 32 = ((keepN kk 32 : Nat) : Int)) := HT
    rw [unhide HT2]
    obtain ⟨t, ht⟩ : ∃ t, t = keepN kk 32 := ⟨_, rfl⟩
    rw [← ht] at htl ⊢
    have HTT := hide ht
    have ht0 : (0 : Int) ≤ (t : Int) := by omega
    have ht1 : (t : Int) ≤ 32 := by omega
    have hlb : (xb.take t).length = t := by rw [List.length_take, unhide LB]; omega
    have hla : (xa.drop t).length = 32 - t := by rw [List.length_drop, unhide LA]
    have HLB := hide hlb
    have HLA := hide hla
    have hsm : (xb.take t).length + (xa.drop t).length ≤ 32 := by omega
    have hsm1 : (xb.take t).length ≤ 32 := by omega
    clear ht hlb hla uk HT HT2
    by_cases h32 : t = 32
    · subst h32
      have hsm2 : xb.length ≤ 32 := by have := unhide LB; omega
      clear hsm hsm1 HLB HLA
      obtain ⟨D8, v8, hD8, hS8⟩ := unhide HN
      have HO : Hid ((w8.alloc (.cells #[] 5)).ownsRow 0 5 1 (.slice (some ⟨w8.heap.size, 0, none⟩) 0 0) ([] : List UInt8).length (([] : List UInt8).map bv)) :=
        ⟨by simp, .inr ⟨w8.heap.size, 0, #[], rfl, Nat.zero_le _, heap_alloc_new w8 _, Nat.le_refl _, by decide, rfl, by simp⟩⟩
      have BA8 : Bytes w8 _ _ := hS8.bytes (unhide BA) (unhide OA).not
      have BB8 : Bytes w8 _ _ := hS8.bytes (unhide BB) (unhide OB).not
      have HU : Hid (Bytes (w8.alloc (.cells #[] 5)) (.slice (some ⟨w.heap.size + 1, 0, none⟩) 32 32) xb) := Bytes.alloc (BB8) _
      have HUA : Hid (Bytes w8 (.slice (some ⟨w.heap.size, 0, none⟩) 0 0) ([] : List UInt8)) := .inr ⟨⟨w.heap.size, 0, none⟩, 0, rfl, Nat.le_refl _, Nat.zero_le _, fun j x hx => by cases hx⟩
      have HD8 := hide hD8
      have HB8 : Hid (Below w.heap.size w w8) := (unhide HB).trans (hS8.below (by have := unhide HZ; have := unhide HP; omega) (fun k hk => by have := unhide HP; have e : k = p := hk; omega))
      have HG8 : Hid (∀ k, D8 k → w.heap.size ≤ k) := fun k hk => by
        have h1 := unhide HP
        have h2 := unhide HZ
        rcases hS8.own k hk with e | e
        · have e' : k = p := e; omega
        · omega
      obtain ⟨ti, hti, hz0, hz1, hz2⟩ := infoByte
      clear hD8 hS8 BA8 BB8 HN BA BB OA OB
      have tok3 : True := trivial
      go_region_law (first
        | (have _t := tok3; refine step_append_bytes rfl (.tmp 87) (.tmp 89) 28 rfl 5 ti (.int .u8 0) Try.underlying28 hti hz0 hz1 hz2 rfl (.slice (some ⟨w8.heap.size, 0, none⟩) 0 0) [] (by rfl) (by exact unhide HO) (.slice (some ⟨w.heap.size + 1, 0, none⟩) 32 32) xb (by rfl) (by exact unhide HU) (by simp only [List.length_nil]; omega) ?_; intro u9 w9 r1 r2 r3; clear tok3; obtain ⟨HB9, HV9, HO9⟩ := slots_app1 r1 r2 r3; clear r1 r2 r3)
        | (refine step_append_bytes rfl (.tmp 90) (.tmp 92) 28 rfl 5 ti (.int .u8 0) Try.underlying28 hti hz0 hz1 hz2 rfl u9 xb (by rfl) (by exact unhide HO9) (.slice (some ⟨w.heap.size, 0, none⟩) 0 0) ([] : List UInt8) (by rfl) (by exact (unhide HUA).kept (fun k _ hk => (unhide HB9).block k hk)) (by simp only [List.length_nil]; omega) ?_; intro u10 w10 r1 r2 r3; obtain ⟨HB10, HV10, HO10⟩ := slots_app2 (unhide HB9) (unhide HV9) r1 r2 r3; clear r1 r2 r3))
      have hD10 := (unhide HD8).kept (unhide HB10).size fun k hk => (unhide HB10).block k ((unhide HD8).lt k hk)
      have O10 : Hid (Off D8 w10 u10 (xb ++ ([] : List UInt8))) := fun _ k hk => ⟨fun hd => by have := (unhide HD8).lt k hd; have := (unhide HV10 k hk).1; omega, (unhide HV10 k hk).2⟩
      have HN : Hid (Now D8 p ((slA F G).crashed (kp k0 k1 k2 k3)) w10 (w10.drewN 1)) := (Now.start hD10).drewN 1
      have HB11 : Hid (Below w.heap.size w w10) := (unhide HB8).trans ((unhide HB10).mono (unhide HB8).size)
      have HW : Hid (((slA F G).crashed (kp k0 k1 k2 k3)).sh i = xb ++ ([] : List UInt8)) := by
        show ((slA F G).crashed (kp k0 k1 k2 k3)).sh i = xb ++ []
        rw [slA_crash _ _ _ _ hi2, unhide HF, unhide HG, ← unhide HKK, ← unhide HTT, List.take_of_length_le (by rw [unhide LB]; omega), List.drop_of_length_le (by rw [unhide LA]; omega)]
      have HW2 : Hid (((slA F G).crashed (kp k0 k1 k2 k3)).sh (1 - i) = List.replicate 32 0) := by
        show ((slA F G).crashed (kp k0 k1 k2 k3)).sh (1 - i) = List.replicate 32 0
        rw [slA_crash _ _ _ _ (by omega), unhide HFO, unhide HGO]
        exact List.take_append_drop _ _
      have H10 := hide (show Bytes w10 u10 (xb ++ ([] : List UInt8)) from unhide HO10)
      clear HO10 HD8 hD10 HB10 HV10 HB9 HV9 HO9 HU HUA HO HB8 hti hz0 hz1 hz2
      have hw1 : IntKind.i64.wrap (1 - (i : Int)) = ((1 - i : Nat) : Int) := by rw [IntKind.wrap_i64]; omega
      have tok4 : True := trivial
      have tok5 : True := trivial
      have tok6 : True := trivial
      go_wp2_with fail
      obtain ⟨Z, hZ, hmk⟩ := make32
      have HZ32 := hide hZ
      clear hZ
      go_region_with (first
        | (go_at_call 17; have _t := tok4; clear tok4; refine (nHead_ok (unhide HN) rfl i hi2).mono ?_; rintro e w11 ⟨r, rfl, hF, hN⟩; rw [unhide HW] at hF; have HR1 := hide hF.1; clear HN hF; have HN := hide hN; clear hN)
        | (go_at_call 17; have _t := tok6; clear tok6; refine (nHead_ok (D := D8) (p := p) (A := (slA F G).crashed (kp k0 k1 k2 k3)) (w0 := w10) (by first | exact unhide HN | exact (unhide HN).alloc _) rfl (1 - i) (by omega)).mono ?_; rintro e w12 ⟨r2, rfl, hF, hN⟩; rw [unhide HW2] at hF; have HR2 := hide hF; clear HN hF; have HN := hide hN; clear hN)
        | (go_at_call 17; refine (nHead_none (D := D8) (p := p) (A := (slA F G).crashed (kp k0 k1 k2 k3)) (w0 := w10) (by first | exact unhide HN | exact (unhide HN).alloc _) 2 (.inr (.inr (by omega)))).mono ?_; rintro e w' ⟨rfl, rfl⟩)
        | (go_at_call 18; have _t := tok5; clear tok5; refine (same_any _ _ _ _ _ (unhide HR1) ((unhide HN).bytes (unhide H10) (unhide O10).not)).mono ?_; rintro e w' ⟨rfl, rfl⟩; rw [decide_eq_true rfl]; clear HR1)
        | (go_at_call 18; refine (same_any _ _ (List.replicate 32 0) (List.replicate 32 0) _ (by first | exact (unhide HR2).1 | exact (unhide HR2).1.alloc _) (by first | exact lit_bytes _ Z 32 _ rfl (by decide) (unhide HZ32) | exact (lit_bytes _ Z 32 _ rfl (by decide) (unhide HZ32)).kept (fun k _ hk => (unhide HR2).2.2.block k hk))).mono ?_; rintro e w' ⟨rfl, rfl⟩; rw [decide_eq_true rfl])
        | (go_at_call 10; refine (awake_any _).mono ?_; rintro e w14 ⟨rfl, hA⟩; have HA := hide hA; clear hA))
      all_goals
        go_wp2
        go_ret
        refine ⟨rfl, (unhide HB11).trans (Below.trans ((unhide HN).toBelow (unhide HB11).size (unhide HG8)) ?_)⟩
        first
          | exact (unhide HA).mono (Nat.le_trans (unhide HB11).size (unhide HN).size)
          | exact ((Below.refl _ _).alloc (Nat.le_trans (unhide HB11).size (unhide HN).size) _).trans ((unhide HA).mono (by simp; have := (unhide HB11).size; have := (unhide HN).size; omega))
    · have hlt : (t : Int) < 32 := by omega
      have hne : ¬ 32 = t := by omega
      obtain ⟨D8, v8, hD8, hS8⟩ := unhide HN
      have HO : Hid ((w8.alloc (.cells #[] 5)).ownsRow 0 5 1 (.slice (some ⟨w8.heap.size, 0, none⟩) 0 0) ([] : List UInt8).length (([] : List UInt8).map bv)) :=
        ⟨by simp, .inr ⟨w8.heap.size, 0, #[], rfl, Nat.zero_le _, heap_alloc_new w8 _, Nat.le_refl _, by decide, rfl, by simp⟩⟩
      have BA8 : Bytes w8 _ _ := hS8.bytes (unhide BA) (unhide OA).not
      have BB8 : Bytes w8 _ _ := hS8.bytes (unhide BB) (unhide OB).not
      have HU : Hid (Bytes (w8.alloc (.cells #[] 5)) (.slice (some ⟨w.heap.size + 1, 0, none⟩) t 32) (xb.take t)) := Bytes.alloc (BB8.take htl (unhide LB)) _
      have HUA : Hid (Bytes w8 (.slice (some ⟨w.heap.size, t, none⟩) (32 - t) (32 - t)) (xa.drop t)) := BA8.drop (unhide LA) htl
      have HD8 := hide hD8
      have HB8 : Hid (Below w.heap.size w w8) := (unhide HB).trans (hS8.below (by have := unhide HZ; have := unhide HP; omega) (fun k hk => by have := unhide HP; have e : k = p := hk; omega))
      have HG8 : Hid (∀ k, D8 k → w.heap.size ≤ k) := fun k hk => by
        have h1 := unhide HP
        have h2 := unhide HZ
        rcases hS8.own k hk with e | e
        · have e' : k = p := e; omega
        · omega
      obtain ⟨ti, hti, hz0, hz1, hz2⟩ := infoByte
      clear hD8 hS8 BA8 BB8 HN BA BB OA OB
      have tok3 : True := trivial
      go_region_law (first
        | (have _t := tok3; refine step_append_bytes rfl (.tmp 87) (.tmp 89) 28 rfl 5 ti (.int .u8 0) Try.underlying28 hti hz0 hz1 hz2 rfl (.slice (some ⟨w8.heap.size, 0, none⟩) 0 0) [] (by rfl) (by exact unhide HO) (.slice (some ⟨w.heap.size + 1, 0, none⟩) t 32) (xb.take t) (by rfl) (by exact unhide HU) (by simp only [List.length_nil]; omega) ?_; intro u9 w9 r1 r2 r3; clear tok3; obtain ⟨HB9, HV9, HO9⟩ := slots_app1 r1 r2 r3; clear r1 r2 r3)
        | (refine step_append_bytes rfl (.tmp 90) (.tmp 92) 28 rfl 5 ti (.int .u8 0) Try.underlying28 hti hz0 hz1 hz2 rfl u9 (xb.take t) (by rfl) (by exact unhide HO9) (.slice (some ⟨w.heap.size, t, none⟩) (32 - t) (32 - t)) (xa.drop t) (by rfl) (by exact (unhide HUA).kept (fun k _ hk => (unhide HB9).block k hk)) (by omega) ?_; intro u10 w10 r1 r2 r3; obtain ⟨HB10, HV10, HO10⟩ := slots_app2 (unhide HB9) (unhide HV9) r1 r2 r3; clear r1 r2 r3))
      have hD10 := (unhide HD8).kept (unhide HB10).size fun k hk => (unhide HB10).block k ((unhide HD8).lt k hk)
      have O10 : Hid (Off D8 w10 u10 ((xb.take t) ++ (xa.drop t))) := fun _ k hk => ⟨fun hd => by have := (unhide HD8).lt k hd; have := (unhide HV10 k hk).1; omega, (unhide HV10 k hk).2⟩
      have HN : Hid (Now D8 p ((slA F G).crashed (kp k0 k1 k2 k3)) w10 (w10.drewN 1)) := (Now.start hD10).drewN 1
      have HB11 : Hid (Below w.heap.size w w10) := (unhide HB8).trans ((unhide HB10).mono (unhide HB8).size)
      have HW : Hid (((slA F G).crashed (kp k0 k1 k2 k3)).sh i = (xb.take t) ++ (xa.drop t)) := by
        show ((slA F G).crashed (kp k0 k1 k2 k3)).sh i = xb.take t ++ xa.drop t
        rw [slA_crash _ _ _ _ hi2, unhide HF, unhide HG, ← unhide HKK, ← unhide HTT]
      have HW2 : Hid (((slA F G).crashed (kp k0 k1 k2 k3)).sh (1 - i) = List.replicate 32 0) := by
        show ((slA F G).crashed (kp k0 k1 k2 k3)).sh (1 - i) = List.replicate 32 0
        rw [slA_crash _ _ _ _ (by omega), unhide HFO, unhide HGO]
        exact List.take_append_drop _ _
      have H10 := hide (show Bytes w10 u10 ((xb.take t) ++ (xa.drop t)) from unhide HO10)
      clear HO10 HD8 hD10 HB10 HV10 HB9 HV9 HO9 HU HUA HO HB8 hti hz0 hz1 hz2
      have hw1 : IntKind.i64.wrap (1 - (i : Int)) = ((1 - i : Nat) : Int) := by rw [IntKind.wrap_i64]; omega
      have tok4 : True := trivial
      have tok5 : True := trivial
      have tok6 : True := trivial
      go_wp2_with fail
      obtain ⟨Z, hZ, hmk⟩ := make32
      have HZ32 := hide hZ
      clear hZ
      go_region_with (first
        | (go_at_call 17; have _t := tok4; clear tok4; refine (nHead_ok (unhide HN) rfl i hi2).mono ?_; rintro e w11 ⟨r, rfl, hF, hN⟩; rw [unhide HW] at hF; have HR1 := hide hF.1; clear HN hF; have HN := hide hN; clear hN)
        | (go_at_call 17; have _t := tok6; clear tok6; refine (nHead_ok (D := D8) (p := p) (A := (slA F G).crashed (kp k0 k1 k2 k3)) (w0 := w10) (by first | exact unhide HN | exact (unhide HN).alloc _) rfl (1 - i) (by omega)).mono ?_; rintro e w12 ⟨r2, rfl, hF, hN⟩; rw [unhide HW2] at hF; have HR2 := hide hF; clear HN hF; have HN := hide hN; clear hN)
        | (go_at_call 17; refine (nHead_none (D := D8) (p := p) (A := (slA F G).crashed (kp k0 k1 k2 k3)) (w0 := w10) (by first | exact unhide HN | exact (unhide HN).alloc _) 2 (.inr (.inr (by omega)))).mono ?_; rintro e w' ⟨rfl, rfl⟩)
        | (go_at_call 18; have _t := tok5; clear tok5; refine (same_any _ _ _ _ _ (unhide HR1) ((unhide HN).bytes (unhide H10) (unhide O10).not)).mono ?_; rintro e w' ⟨rfl, rfl⟩; rw [decide_eq_true rfl]; clear HR1)
        | (go_at_call 18; refine (same_any _ _ (List.replicate 32 0) (List.replicate 32 0) _ (by first | exact (unhide HR2).1 | exact (unhide HR2).1.alloc _) (by first | exact lit_bytes _ Z 32 _ rfl (by decide) (unhide HZ32) | exact (lit_bytes _ Z 32 _ rfl (by decide) (unhide HZ32)).kept (fun k _ hk => (unhide HR2).2.2.block k hk))).mono ?_; rintro e w' ⟨rfl, rfl⟩; rw [decide_eq_true rfl])
        | (go_at_call 10; refine (awake_any _).mono ?_; rintro e w14 ⟨rfl, hA⟩; have HA := hide hA; clear hA))
      all_goals
        go_wp2
        go_ret
        refine ⟨rfl, (unhide HB11).trans (Below.trans ((unhide HN).toBelow (unhide HB11).size (unhide HG8)) ?_)⟩
        first
          | exact (unhide HA).mono (Nat.le_trans (unhide HB11).size (unhide HN).size)
          | exact ((Below.refl _ _).alloc (Nat.le_trans (unhide HB11).size (unhide HN).size) _).trans ((unhide HA).mono (by simp; have := (unhide HB11).size; have := (unhide HN).size; omega))
  · go_wp2_with fail
    refine (nSyncHead_ok (unhide HN) rfl (by show (-1 : Int) ≠ 0; omega)).mono ?_
    rintro e w5' ⟨rfl, hN⟩
    rw [slA_head] at hN
    obtain ⟨F2, hF2i, hF2o, hN⟩ := slots_synced hN hi2 (unhide HG) (unhide HGO)
    clear HN HF HFO
    have HF := hide hF2i
    have HFO := hide hF2o
    have HN := hide hN
    clear hF2i hF2o hN
    go_wp2_with fail
    refine (nWrite_arg (unhide HN) rfl _ _ 31 32 (.inr ⟨by omega, by omega, by omega⟩)).mono ?_
    rintro e w6 ⟨rfl, hN⟩
    clear HN
    have HN := hide hN
    clear hN
    go_wp2_with fail
    refine (nWrite_arg (unhide HN) rfl _ _ 32 32 (.inl (.inr (by omega)))).mono ?_
    rintro e w7 ⟨rfl, hN⟩
    have z0 := hN.cell (unhide K0) (unhide NK)
    have z1 := hN.cell (unhide K1) (unhide NK)
    have z2 := hN.cell (unhide K2) (unhide NK)
    have z3 := hN.cell (unhide K3) (unhide NK)
    clear HN
    have HN := hide hN
    clear hN
    go_wp2_with fail
    refine (nCrash (unhide HN) k0 k1 k2 k3).mono ?_
    rintro e w8 ⟨rfl, hN⟩
    clear z0 z1 z2 z3 HN
    have uk : w8.cell? ⟨w.heap.size + 1 + 1, 2 + i, none⟩ = some (.int .i64 (kp k0 k1 k2 k3 (2 + i))) := by
      rcases (show i = 0 ∨ i = 1 by omega) with rfl | rfl
      · exact hN.cell (unhide K2) (unhide NK)
      · exact hN.cell (unhide K3) (unhide NK)
    obtain ⟨kk, hkk⟩ : ∃ kk, kk = kp k0 k1 k2 k3 (2 + i) := ⟨_, rfl⟩
    rw [← hkk] at uk
    have HKK := hide hkk
    clear hkk
    have hi0 : (0 : Int) ≤ (i : Int) := by omega
    have hi3 : (i : Int) < 2 := by omega
    have HN := hide hN
    clear hN
    go_wp2_with (first
      | refine wpList_max2 rfl (.tmp 83) (.const (.int .i64 0)) 3 3 rfl _ _ _ _ rfl rfl ?_
      | refine wpList_min2 rfl (.tmp 84) (.const (.int .i64 32)) 3 3 rfl _ _ _ _ rfl rfl ?_)
    have hsm2 : xb.length ≤ 32 := by have := unhide LB; omega
    clear uk
    obtain ⟨D8, v8, hD8, hS8⟩ := unhide HN
    have HO : Hid ((w8.alloc (.cells #[] 5)).ownsRow 0 5 1 (.slice (some ⟨w8.heap.size, 0, none⟩) 0 0) ([] : List UInt8).length (([] : List UInt8).map bv)) :=
      ⟨by simp, .inr ⟨w8.heap.size, 0, #[], rfl, Nat.zero_le _, heap_alloc_new w8 _, Nat.le_refl _, by decide, rfl, by simp⟩⟩
    have BA8 : Bytes w8 _ _ := hS8.bytes (unhide BA) (unhide OA).not
    have BB8 : Bytes w8 _ _ := hS8.bytes (unhide BB) (unhide OB).not
    have HU : Hid (Bytes (w8.alloc (.cells #[] 5)) (.slice (some ⟨w.heap.size + 1, 0, none⟩) 32 32) xb) := Bytes.alloc (BB8) _
    have HUA : Hid (Bytes w8 (.slice (some ⟨w.heap.size, 0, none⟩) 0 0) ([] : List UInt8)) := .inr ⟨⟨w.heap.size, 0, none⟩, 0, rfl, Nat.le_refl _, Nat.zero_le _, fun j x hx => by cases hx⟩
    have HD8 := hide hD8
    have HB8 : Hid (Below w.heap.size w w8) := (unhide HB).trans (hS8.below (by have := unhide HZ; have := unhide HP; omega) (fun k hk => by have := unhide HP; have e : k = p := hk; omega))
    have HG8 : Hid (∀ k, D8 k → w.heap.size ≤ k) := fun k hk => by
      have h1 := unhide HP
      have h2 := unhide HZ
      rcases hS8.own k hk with e | e
      · have e' : k = p := e; omega
      · omega
    obtain ⟨ti, hti, hz0, hz1, hz2⟩ := infoByte
    clear hD8 hS8 BA8 BB8 HN BA BB OA OB
    have tok3 : True := trivial
    go_region_law (first
      | (have _t := tok3; refine step_append_bytes rfl (.tmp 87) (.tmp 89) 28 rfl 5 ti (.int .u8 0) Try.underlying28 hti hz0 hz1 hz2 rfl (.slice (some ⟨w8.heap.size, 0, none⟩) 0 0) [] (by rfl) (by exact unhide HO) (.slice (some ⟨w.heap.size + 1, 0, none⟩) 32 32) xb (by rfl) (by exact unhide HU) (by simp only [List.length_nil]; omega) ?_; intro u9 w9 r1 r2 r3; clear tok3; obtain ⟨HB9, HV9, HO9⟩ := slots_app1 r1 r2 r3; clear r1 r2 r3)
      | (refine step_append_bytes rfl (.tmp 90) (.tmp 92) 28 rfl 5 ti (.int .u8 0) Try.underlying28 hti hz0 hz1 hz2 rfl u9 xb (by rfl) (by exact unhide HO9) (.slice (some ⟨w.heap.size, 0, none⟩) 0 0) ([] : List UInt8) (by rfl) (by exact (unhide HUA).kept (fun k _ hk => (unhide HB9).block k hk)) (by simp only [List.length_nil]; omega) ?_; intro u10 w10 r1 r2 r3; obtain ⟨HB10, HV10, HO10⟩ := slots_app2 (unhide HB9) (unhide HV9) r1 r2 r3; clear r1 r2 r3))
    have hD10 := (unhide HD8).kept (unhide HB10).size fun k hk => (unhide HB10).block k ((unhide HD8).lt k hk)
    have O10 : Hid (Off D8 w10 u10 (xb ++ ([] : List UInt8))) := fun _ k hk => ⟨fun hd => by have := (unhide HD8).lt k hd; have := (unhide HV10 k hk).1; omega, (unhide HV10 k hk).2⟩
    have HN : Hid (Now D8 p ((slA F2 G).crashed (kp k0 k1 k2 k3)) w10 (w10.drewN 1)) := (Now.start hD10).drewN 1
    have HB11 : Hid (Below w.heap.size w w10) := (unhide HB8).trans ((unhide HB10).mono (unhide HB8).size)
    have HW : Hid (((slA F2 G).crashed (kp k0 k1 k2 k3)).sh i = xb ++ ([] : List UInt8)) := by
      show ((slA F2 G).crashed (kp k0 k1 k2 k3)).sh i = xb ++ []
      rw [slA_crash _ _ _ _ hi2, unhide HF, unhide HG, List.take_append_drop, List.append_nil]
    have HW2 : Hid (((slA F2 G).crashed (kp k0 k1 k2 k3)).sh (1 - i) = List.replicate 32 0) := by
      show ((slA F2 G).crashed (kp k0 k1 k2 k3)).sh (1 - i) = List.replicate 32 0
      rw [slA_crash _ _ _ _ (by omega), unhide HFO, unhide HGO]
      exact List.take_append_drop _ _
    have H10 := hide (show Bytes w10 u10 (xb ++ ([] : List UInt8)) from unhide HO10)
    clear HO10 HD8 hD10 HB10 HV10 HB9 HV9 HO9 HU HUA HO HB8 hti hz0 hz1 hz2
    have hw1 : IntKind.i64.wrap (1 - (i : Int)) = ((1 - i : Nat) : Int) := by rw [IntKind.wrap_i64]; omega
    have tok4 : True := trivial
    have tok5 : True := trivial
    have tok6 : True := trivial
    go_wp2_with fail
    obtain ⟨Z, hZ, hmk⟩ := make32
    have HZ32 := hide hZ
    clear hZ
    go_region_with (first
      | (go_at_call 17; have _t := tok4; clear tok4; refine (nHead_ok (unhide HN) rfl i hi2).mono ?_; rintro e w11 ⟨r, rfl, hF, hN⟩; rw [unhide HW] at hF; have HR1 := hide hF.1; clear HN hF; have HN := hide hN; clear hN)
      | (go_at_call 17; have _t := tok6; clear tok6; refine (nHead_ok (D := D8) (p := p) (A := (slA F2 G).crashed (kp k0 k1 k2 k3)) (w0 := w10) (by first | exact unhide HN | exact (unhide HN).alloc _) rfl (1 - i) (by omega)).mono ?_; rintro e w12 ⟨r2, rfl, hF, hN⟩; rw [unhide HW2] at hF; have HR2 := hide hF; clear HN hF; have HN := hide hN; clear hN)
      | (go_at_call 17; refine (nHead_none (D := D8) (p := p) (A := (slA F2 G).crashed (kp k0 k1 k2 k3)) (w0 := w10) (by first | exact unhide HN | exact (unhide HN).alloc _) 2 (.inr (.inr (by omega)))).mono ?_; rintro e w' ⟨rfl, rfl⟩)
      | (go_at_call 18; have _t := tok5; clear tok5; refine (same_any _ _ _ _ _ (unhide HR1) ((unhide HN).bytes (unhide H10) (unhide O10).not)).mono ?_; rintro e w' ⟨rfl, rfl⟩; rw [decide_eq_true rfl]; clear HR1)
      | (go_at_call 18; refine (same_any _ _ (List.replicate 32 0) (List.replicate 32 0) _ (by first | exact (unhide HR2).1 | exact (unhide HR2).1.alloc _) (by first | exact lit_bytes _ Z 32 _ rfl (by decide) (unhide HZ32) | exact (lit_bytes _ Z 32 _ rfl (by decide) (unhide HZ32)).kept (fun k _ hk => (unhide HR2).2.2.block k hk))).mono ?_; rintro e w' ⟨rfl, rfl⟩; rw [decide_eq_true rfl])
      | (go_at_call 10; refine (awake_any _).mono ?_; rintro e w14 ⟨rfl, hA⟩; have HA := hide hA; clear hA))
    all_goals
      go_wp2
      go_ret
      refine ⟨rfl, (unhide HB11).trans (Below.trans ((unhide HN).toBelow (unhide HB11).size (unhide HG8)) ?_)⟩
      first
        | exact (unhide HA).mono (Nat.le_trans (unhide HB11).size (unhide HN).size)
        | exact ((Below.refl _ _).alloc (Nat.le_trans (unhide HB11).size (unhide HN).size) _).trans ((unhide HA).mono (by simp; have := (unhide HB11).size; have := (unhide HN).size; omega))
end Go.Proofs.Ytbpjlkjokafdnaa
