/- The chapter's examples, as the statements ask them: 'awake' returns true. No statement of the seat is proved here. -/
import Derived.Test.YtbpjlkjokafdnaaMeth6
namespace Go.Proofs.Ytbpjlkjokafdnaa
open Go.RowKit

/-- Four numbers by their places. -/
def kp (a b c d : Int) : Nat → Int
  | 0 => a
  | 1 => b
  | 2 => c
  | _ => d

theorem crash4 {w : World} {p : Nat} {D : Nat → Prop} {v : Nat → Value} {A : AD} (h : DiskIs w p D v A) (a b c d : Int) : Calls Try.prog 23 #[.pointer (some ⟨p, 0, none⟩), .agg #[.int .i64 a, .int .i64 b, .int .i64 c, .int .i64 d]] w fun e w' => e = .returned (.tuple #[]) ∧ Now D p (A.crashed (kp a b c d)) w w' := crash_any h (kp a b c d)

theorem three_boxes (w : World) (x y z : Value) (t s r : TypeId) : (((w.alloc (.cells #[x] t)).alloc (.cells #[y] s)).alloc (.cells #[z] r)).cell? ⟨w.heap.size, 0, none⟩ = some x ∧ (((w.alloc (.cells #[x] t)).alloc (.cells #[y] s)).alloc (.cells #[z] r)).cell? ⟨w.heap.size + 1, 0, none⟩ = some y ∧ (((w.alloc (.cells #[x] t)).alloc (.cells #[y] s)).alloc (.cells #[z] r)).cell? ⟨w.heap.size + 2, 0, none⟩ = some z := by
  have h1 : (((w.alloc (.cells #[x] t)).alloc (.cells #[y] s)).alloc (.cells #[z] r)).heap[w.heap.size]? = some (.cells #[x] t (0, 0)) := by
    rw [Below.heap_alloc _ _ _ (by simp; omega), Below.heap_alloc _ _ _ (by simp)]; exact heap_alloc_new w _
  have h2 : (((w.alloc (.cells #[x] t)).alloc (.cells #[y] s)).alloc (.cells #[z] r)).heap[w.heap.size + 1]? = some (.cells #[y] s (0, 0)) := by
    rw [Below.heap_alloc _ _ _ (by simp)]
    have := heap_alloc_new (w.alloc (.cells #[x] t)) (.cells #[y] s)
    have e : (w.alloc (.cells #[x] t)).heap.size = w.heap.size + 1 := by simp
    rw [e] at this; exact this
  have h3 : (((w.alloc (.cells #[x] t)).alloc (.cells #[y] s)).alloc (.cells #[z] r)).heap[w.heap.size + 2]? = some (.cells #[z] r (0, 0)) := by
    have := heap_alloc_new ((w.alloc (.cells #[x] t)).alloc (.cells #[y] s)) (.cells #[z] r)
    have e : ((w.alloc (.cells #[x] t)).alloc (.cells #[y] s)).heap.size = w.heap.size + 2 := by simp
    rw [e] at this; exact this
  exact ⟨cell_of_row _ _ 0 _ _ _ h1, cell_of_row _ _ 0 _ _ _ h2, cell_of_row _ _ 0 _ _ _ h3⟩

theorem lit_bytes (w : World) (cs : Array Value) (n : Nat) (bs : List UInt8) (hn : n = bs.length) (hm : bs.length ≤ 1048576) (hc : cs = (bs.map bv).toArray) : Bytes (w.alloc (.cells cs 5)) (.slice (some ⟨w.heap.size, 0, none⟩) n n) bs := by
  subst hc hn
  refine .inr ⟨⟨w.heap.size, 0, none⟩, bs.length, rfl, Nat.le_refl _, by unfold maxLen; omega, fun j u hu => ?_⟩
  rw [Addr.add_mid, Nat.zero_add, cell_of_row _ _ _ _ _ _ (heap_alloc_new w _)]
  simpa using hu

def S0 : AD := AD.new 10
def S1 : AD := { S0.tick with x := upd S0.x 0 (S0.x 0 ++ [1, 2, 3]) }
def S2 : AD := S1.tick.synced 0
def S3 : AD := { S2.tick with x := upd S2.x 0 (S2.x 0 ++ [4, 5]) }
def S4 : AD := S3.crashed (kp 1 0 0 0)
def S5 : AD := S4.fused 1 2
def S6 : AD := { S5.tick with x := upd S5.x 1 (S5.x 1 ++ [7]) }
def S7 : AD := S6.killed 1 [8, 9, 9]
def S8 : AD := S7.crashed (kp 9 9 0 0)

theorem free5 : S3.cap - (S3.x 0).length - (S3.x 1).length = 5 := by decide +kernel
theorem free6 : S4.cap - (S4.x 0).length - (S4.x 1).length = 6 := by decide +kernel
theorem free3 : S8.cap - (S8.x 0).length - (S8.x 1).length = 3 := by decide +kernel
theorem read4 : S4.x 0 = [1, 2, 3, 4] := by decide +kernel
theorem read8 : S8.x 1 = [7, 8, 9] := by decide +kernel


theorem Step.fresh {D E : Nat → Prop} {a b : World} (h : Step D E a b) (w : World) {r : Value} {bs : List UInt8} (hf : Fresh b w r bs) : Step D E a w := h.trans (hf.step E)

section
variable {w : World} {p : Nat} {D : Nat → Prop} {v : Nat → Value} {A : AD}
theorem append_ok0 (h : DiskIs w p D v A) (hd : A.dead = false) (hc : A.calls ≠ 0) (u : Value) (bs : List UInt8) (hu : Bytes w u bs) (hn : bs ≠ [] → ∀ k, u.ownBlock = some k → ¬ D k) (hroom : ((A.x 0).length : Int) + (A.x 1).length + bs.length ≤ A.cap) :
    Calls Try.prog 21 #[.pointer (some ⟨p, 0, none⟩), .int .i64 0, u] w fun e w' => e = .returned (.int .i64 0) ∧ Now D p { A.tick with x := upd A.x 0 (A.x 0 ++ bs) } w w' := append_ok h hd hc 0 (by omega) u bs hu hn hroom
theorem append_ok1 (h : DiskIs w p D v A) (hd : A.dead = false) (hc : A.calls ≠ 0) (u : Value) (bs : List UInt8) (hu : Bytes w u bs) (hn : bs ≠ [] → ∀ k, u.ownBlock = some k → ¬ D k) (hroom : ((A.x 0).length : Int) + (A.x 1).length + bs.length ≤ A.cap) :
    Calls Try.prog 21 #[.pointer (some ⟨p, 0, none⟩), .int .i64 1, u] w fun e w' => e = .returned (.int .i64 0) ∧ Now D p { A.tick with x := upd A.x 1 (A.x 1 ++ bs) } w w' := append_ok h hd hc 1 (by omega) u bs hu hn hroom
theorem append_kill1 (h : DiskIs w p D v A) (hd : A.dead = false) (hc : A.calls = 0) (u : Value) (bs : List UInt8) (hu : Bytes w u bs) (hn : bs ≠ [] → ∀ k, u.ownBlock = some k → ¬ D k) (hroom : ((A.x 0).length : Int) + (A.x 1).length + bs.length ≤ A.cap) :
    Calls Try.prog 21 #[.pointer (some ⟨p, 0, none⟩), .int .i64 1, u] w fun e w' => e = .returned (.int .i64 3) ∧ Now D p (A.killed 1 bs) w w' := append_kill h hd hc 1 (by omega) u bs hu hn hroom
theorem append_full0 (h : DiskIs w p D v A) (hd : A.dead = false) (u : Value) (bs : List UInt8) (hu : Bytes w u bs) (hroom : A.cap < ((A.x 0).length : Int) + (A.x 1).length + bs.length) :
    Calls Try.prog 21 #[.pointer (some ⟨p, 0, none⟩), .int .i64 0, u] w fun e w' => e = .returned (.int .i64 5) ∧ Now D p A w w' := append_full h hd 0 (by omega) u bs hu hroom
theorem sync_ok0 (h : DiskIs w p D v A) (hd : A.dead = false) (hc : A.calls ≠ 0) : Calls Try.prog 22 #[.pointer (some ⟨p, 0, none⟩), .int .i64 0] w fun e w' => e = .returned (.int .i64 0) ∧ Now D p (A.tick.synced 0) w w' := sync_ok h hd hc 0 (by omega)
theorem read_ok0 (h : DiskIs w p D v A) (hd : A.dead = false) : Calls Try.prog 16 #[.pointer (some ⟨p, 0, none⟩), .int .i64 0] w fun e w' => ∃ r, e = .returned r ∧ Fresh w w' r (A.x 0) := read_ok h hd 0 (by omega)
theorem read_ok1 (h : DiskIs w p D v A) (hd : A.dead = false) : Calls Try.prog 16 #[.pointer (some ⟨p, 0, none⟩), .int .i64 1] w fun e w' => ∃ r, e = .returned r ∧ Fresh w w' r (A.x 1) := read_ok h hd 1 (by omega)
theorem lit_not (h : DiskIs w p D v A) (n c : Nat) {bs : List UInt8} : bs ≠ [] → ∀ k, (Value.slice (some ⟨w.heap.size, 0, none⟩) n c).ownBlock = some k → ¬ D k := fun _ k hk => by
  simp [Value.ownBlock] at hk
  exact h.fresh k (by omega)
end

set_option maxHeartbeats 4000000 in
theorem awake_any (w : World) : Calls Try.prog 10 #[] w fun e w' => e = .returned (.bool true) ∧ Below w.heap.size w w' := by
  obtain ⟨p, hp⟩ : ∃ p, p = w.heap.size := ⟨_, rfl⟩
  have HP := hide hp
  clear hp
  go_enter Try.func10, Try.ntmps10
  go_wp2_with fail
  refine (new_ok 10 (by omega) (by omega) _).mono ?_
  rintro e w1 ⟨rfl, hD1, hz1, hb1⟩
  rw [← unhide HP] at hD1 ⊢
  have HZ := hide hz1
  have HB := hide hb1
  have HS : Hid (Step (fun k => k = p) (fun k => k = p) w1 w1) := Step.refl _ _
  have HD : Hid (DiskIs w1 p (fun k => k = p) (fun _ => .slice none 0 0) S0) := hD1
  clear hD1 hb1 hz1
  go_wp2_with fail
  refine (append_ok0 ((unhide HD).alloc _) rfl (by decide +kernel) _ [1, 2, 3] (lit_bytes w1 _ 3 [1, 2, 3] rfl (by decide) rfl) (lit_not (unhide HD) _ _) (by decide +kernel)).mono ?_
  rintro e w2 ⟨rfl, D2, v2, hD2, hS2⟩
  have HS' : Hid (Step (fun k => k = p) D2 w1 w2) := ((unhide HS).alloc _).trans hS2
  have HD' : Hid (DiskIs w2 p D2 v2 S1) := hD2
  clear HS HD hD2 hS2; rename Hid (Step _ _ _ _) => HS; rename Hid (DiskIs _ _ _ _ _) => HD
  go_wp2_with fail
  refine (sync_ok0 (unhide HD) rfl (by decide +kernel)).mono ?_
  rintro e w3 ⟨rfl, D3, v3, hD3, hS3⟩
  have HS' : Hid (Step (fun k => k = p) D3 w1 w3) := ((unhide HS)).trans hS3
  have HD' : Hid (DiskIs w3 p D3 v3 S2) := hD3
  clear HS HD hD3 hS3; rename Hid (Step _ _ _ _) => HS; rename Hid (DiskIs _ _ _ _ _) => HD
  go_wp2_with fail
  refine (append_ok0 ((unhide HD).alloc _) rfl (by decide +kernel) _ [4, 5] (lit_bytes w3 _ 2 [4, 5] rfl (by decide) rfl) (lit_not (unhide HD) _ _) (by decide +kernel)).mono ?_
  rintro e w4 ⟨rfl, D4, v4, hD4, hS4⟩
  have HS' : Hid (Step (fun k => k = p) D4 w1 w4) := ((unhide HS).alloc _).trans hS4
  have HD' : Hid (DiskIs w4 p D4 v4 S3) := hD4
  clear HS HD hD4 hS4; rename Hid (Step _ _ _ _) => HS; rename Hid (DiskIs _ _ _ _ _) => HD
  go_wp2_with fail
  refine (free_alive (unhide HD) rfl).mono ?_
  rintro e w' ⟨rfl, rfl⟩
  rw [free5]
  go_wp2_with fail
  refine (crash4 (unhide HD) 1 0 0 0).mono ?_
  rintro e w5 ⟨rfl, D5, v5, hD5, hS5⟩
  have HS' : Hid (Step (fun k => k = p) D5 w1 w5) := ((unhide HS)).trans hS5
  have HD' : Hid (DiskIs w5 p D5 v5 S4) := hD5
  clear HS HD hD5 hS5; rename Hid (Step _ _ _ _) => HS; rename Hid (DiskIs _ _ _ _ _) => HD
  go_wp2_with fail
  refine (read_ok0 (unhide HD) rfl).mono ?_
  rintro e w6 ⟨r6, rfl, hF⟩
  have HF := hide hF
  have HS' : Hid (Step (fun k => k = p) D5 w1 w6) := (unhide HS).fresh w6 hF
  have HD' : Hid (DiskIs w6 p D5 v5 S4) := hF.disk (unhide HD)
  clear HS HD hF; rename Hid (Step _ _ _ _) => HS; rename Hid (DiskIs _ _ _ _ _) => HD
  go_wp2_with fail
  refine (same_any _ _ _ [1, 2, 3, 4] _ ((unhide HF).1.alloc _) (lit_bytes w6 _ 4 [1, 2, 3, 4] rfl (by decide) rfl)).mono ?_
  rintro e w7 ⟨rfl, hw7⟩
  rw [read4]
  have HS' : Hid (Step (fun k => k = p) D5 w1 w7) := by rw [hw7]; exact (unhide HS).alloc _
  have HD' : Hid (DiskIs w7 p D5 v5 S4) := by rw [hw7]; exact (unhide HD).alloc _
  clear HS HD hw7 HF; rename Hid (Step _ _ _ _) => HS; rename Hid (DiskIs _ _ _ _ _) => HD
  go_wp2_with fail
  refine (free_alive (unhide HD) rfl).mono ?_
  rintro e w8 ⟨rfl, hw8⟩
  subst hw8
  rw [free6]
  go_wp2_with fail
  refine (fuse_alive (unhide HD) rfl 1 2 (by omega)).mono ?_
  rintro e w9 ⟨rfl, hD9, hS9⟩
  have HS' : Hid (Step (fun k => k = p) D5 w1 w9) := (unhide HS).trans hS9
  have HD' : Hid (DiskIs w9 p D5 v5 S5) := hD9
  clear HS HD hD9 hS9; rename Hid (Step _ _ _ _) => HS; rename Hid (DiskIs _ _ _ _ _) => HD
  go_wp2_with fail
  refine (append_ok1 ((unhide HD).alloc _) rfl (by decide +kernel) _ [7] (lit_bytes w9 _ 1 [7] rfl (by decide) rfl) (lit_not (unhide HD) _ _) (by decide +kernel)).mono ?_
  rintro e w10 ⟨rfl, D10, v10, hD10, hS10⟩
  have HS' : Hid (Step (fun k => k = p) D10 w1 w10) := ((unhide HS).alloc _).trans hS10
  have HD' : Hid (DiskIs w10 p D10 v10 S6) := hD10
  clear HS HD hD10 hS10; rename Hid (Step _ _ _ _) => HS; rename Hid (DiskIs _ _ _ _ _) => HD
  go_wp2_with fail
  refine (append_kill1 ((unhide HD).alloc _) rfl (by decide +kernel) _ [8, 9, 9] (lit_bytes w10 _ 3 [8, 9, 9] rfl (by decide) rfl) (lit_not (unhide HD) _ _) (by decide +kernel)).mono ?_
  rintro e w11 ⟨rfl, D11, v11, hD11, hS11⟩
  have HS' : Hid (Step (fun k => k = p) D11 w1 w11) := ((unhide HS).alloc _).trans hS11
  have HD' : Hid (DiskIs w11 p D11 v11 S7) := hD11
  clear HS HD hD11 hS11; rename Hid (Step _ _ _ _) => HS; rename Hid (DiskIs _ _ _ _ _) => HD
  go_wp2_with fail
  refine (read_none (unhide HD) 1 (.inl rfl)).mono ?_
  rintro e w12 ⟨rfl, hw12⟩
  subst hw12
  go_wp2_with fail
  refine (dead_any (unhide HD)).mono ?_
  rintro e w13 ⟨rfl, hw13⟩
  subst hw13
  rw [show S7.dead = true from rfl]
  go_wp2_with fail
  refine (crash4 (unhide HD) 9 9 0 0).mono ?_
  rintro e w14 ⟨rfl, D14, v14, hD14, hS14⟩
  have HS' : Hid (Step (fun k => k = p) D14 w1 w14) := ((unhide HS)).trans hS14
  have HD' : Hid (DiskIs w14 p D14 v14 S8) := hD14
  clear HS HD hD14 hS14; rename Hid (Step _ _ _ _) => HS; rename Hid (DiskIs _ _ _ _ _) => HD
  go_wp2_with fail
  refine (read_ok1 (unhide HD) rfl).mono ?_
  rintro e w15 ⟨r15, rfl, hF⟩
  have HF := hide hF
  have HS' : Hid (Step (fun k => k = p) D14 w1 w15) := (unhide HS).fresh w15 hF
  have HD' : Hid (DiskIs w15 p D14 v14 S8) := hF.disk (unhide HD)
  clear HS HD hF; rename Hid (Step _ _ _ _) => HS; rename Hid (DiskIs _ _ _ _ _) => HD
  go_wp2_with fail
  refine (same_any _ _ _ [7, 8, 9] _ ((unhide HF).1.alloc _) (lit_bytes w15 _ 3 [7, 8, 9] rfl (by decide) rfl)).mono ?_
  rintro e w16 ⟨rfl, hw16⟩
  rw [read8]
  have HS' : Hid (Step (fun k => k = p) D14 w1 w16) := by rw [hw16]; exact (unhide HS).alloc _
  have HD' : Hid (DiskIs w16 p D14 v14 S8) := by rw [hw16]; exact (unhide HD).alloc _
  clear HS HD hw16 HF; rename Hid (Step _ _ _ _) => HS; rename Hid (DiskIs _ _ _ _ _) => HD
  go_wp2_with fail
  refine (append_full0 ((unhide HD).alloc _) rfl _ [1, 1, 1, 1] (lit_bytes w16 _ 4 [1, 1, 1, 1] rfl (by decide) rfl) (by decide +kernel)).mono ?_
  rintro e w17 ⟨rfl, D17, v17, hD17, hS17⟩
  have HS' : Hid (Step (fun k => k = p) D17 w1 w17) := ((unhide HS).alloc _).trans hS17
  have HD' : Hid (DiskIs w17 p D17 v17 S8) := hD17
  clear HS HD hD17 hS17; rename Hid (Step _ _ _ _) => HS; rename Hid (DiskIs _ _ _ _ _) => HD
  go_wp2_with fail
  refine (free_alive (unhide HD) rfl).mono ?_
  rintro e w18 ⟨rfl, hw18⟩
  subst hw18
  rw [free3]
  go_wp2
  go_ret
  exact ⟨rfl, (unhide HB).trans ((unhide HS).below (by have := unhide HZ; omega) (fun k hk => by have := unhide HP; omega))⟩
end Go.Proofs.Ytbpjlkjokafdnaa
