/- One op with both disks: the law's function 'step', of whatever kind. No statement of the seat is proved here. -/
import Derived.Test.YtbpjlkjokafdnaaStep0
import Derived.Test.YtbpjlkjokafdnaaStep1
import Derived.Test.YtbpjlkjokafdnaaStep2
import Derived.Test.YtbpjlkjokafdnaaStep3
import Derived.Test.YtbpjlkjokafdnaaStep4
import Derived.Test.YtbpjlkjokafdnaaStep5
import Derived.Test.YtbpjlkjokafdnaaStep6
import Derived.Test.YtbpjlkjokafdnaaStep7
namespace Go.Proofs.Ytbpjlkjokafdnaa
open Go.RowKit

theorem step_any {w0 w : World} {p q : Nat} {cs : Array Value} {A : AD} (h : TW w0 p q (fun _ => False) cs A A w) (wh sg nn k0 k1 k2 k3 : Int) (a : Option Addr) (n c : Nat) (bs : List UInt8) (hu : Bytes w0 (.slice a n c) bs) (hwh : 0 ≤ wh ∧ wh < 256) (hnn : nn ≤ 9223372036854775807) :
    Calls Try.prog 12 #[.pointer (some ⟨p, 0, none⟩), .pointer (some ⟨q, 0, none⟩), .agg #[.int .u8 wh, .int .i64 sg, .int .i64 nn, .slice a n c, .int .i64 k0, .int .i64 k1, .int .i64 k2, .int .i64 k3]] w fun e w' => e = .returned (.bool true) ∧ ∃ A' cs', TW w0 p q (fun _ => False) cs' A' A' w' := by
  rcases (show wh % 8 = 0 ∨ wh % 8 = 1 ∨ wh % 8 = 2 ∨ wh % 8 = 3 ∨ wh % 8 = 4 ∨ wh % 8 = 5 ∨ wh % 8 = 6 ∨ wh % 8 = 7 by omega) with ht | ht | ht | ht | ht | ht | ht | ht
  · exact step_0 h wh sg nn k0 k1 k2 k3 a n c bs hu hwh hnn ht
  · exact step_1 h wh sg nn k0 k1 k2 k3 a n c bs hu hwh hnn ht
  · exact step_2 h wh sg nn k0 k1 k2 k3 a n c bs hu hwh hnn ht
  · exact step_3 h wh sg nn k0 k1 k2 k3 a n c bs hu hwh hnn ht
  · exact step_4 h wh sg nn k0 k1 k2 k3 a n c bs hu hwh hnn ht
  · exact step_5 h wh sg nn k0 k1 k2 k3 a n c bs hu hwh hnn ht
  · exact step_6 h wh sg nn k0 k1 k2 k3 a n c bs hu hwh hnn ht
  · exact step_7 h wh sg nn k0 k1 k2 k3 a n c bs hu hwh hnn ht
end Go.Proofs.Ytbpjlkjokafdnaa
