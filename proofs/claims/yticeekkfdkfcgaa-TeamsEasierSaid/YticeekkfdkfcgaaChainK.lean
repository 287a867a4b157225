/- ChainK: what is true of the chains of all graphs of at most five languages, by the kernel. ChainL: the other graphs of five languages. -/
import Derived.Test.YticeekkfdkfcgaaChainS
namespace Go.Proofs.Yticeekkfdkfcgaa

theorem ok2 : okAll 2 0 2 = true := by decide +kernel
theorem ok3 : okAll 3 0 8 = true := by decide +kernel
theorem ok4 : okAll 4 0 64 = true := by decide +kernel
theorem ok5_0 : okAll 5 0 32 = true := by decide +kernel
theorem ok5_1 : okAll 5 32 32 = true := by decide +kernel
theorem ok5_2 : okAll 5 64 32 = true := by decide +kernel
theorem ok5_3 : okAll 5 96 32 = true := by decide +kernel
theorem ok5_4 : okAll 5 128 32 = true := by decide +kernel
theorem ok5_5 : okAll 5 160 32 = true := by decide +kernel
theorem ok5_6 : okAll 5 192 32 = true := by decide +kernel
theorem ok5_7 : okAll 5 224 32 = true := by decide +kernel
theorem ok5_8 : okAll 5 256 32 = true := by decide +kernel
theorem ok5_9 : okAll 5 288 32 = true := by decide +kernel
theorem ok5_10 : okAll 5 320 32 = true := by decide +kernel
theorem ok5_11 : okAll 5 352 32 = true := by decide +kernel
theorem ok5_12 : okAll 5 384 32 = true := by decide +kernel
theorem ok5_13 : okAll 5 416 32 = true := by decide +kernel
theorem ok5_14 : okAll 5 448 32 = true := by decide +kernel
theorem ok5_15 : okAll 5 480 32 = true := by decide +kernel

end Go.Proofs.Yticeekkfdkfcgaa

namespace Go.Proofs.Yticeekkfdkfcgaa

theorem ok5_16 : okAll 5 512 32 = true := by decide +kernel
theorem ok5_17 : okAll 5 544 32 = true := by decide +kernel
theorem ok5_18 : okAll 5 576 32 = true := by decide +kernel
theorem ok5_19 : okAll 5 608 32 = true := by decide +kernel
theorem ok5_20 : okAll 5 640 32 = true := by decide +kernel
theorem ok5_21 : okAll 5 672 32 = true := by decide +kernel
theorem ok5_22 : okAll 5 704 32 = true := by decide +kernel
theorem ok5_23 : okAll 5 736 32 = true := by decide +kernel
theorem ok5_24 : okAll 5 768 32 = true := by decide +kernel
theorem ok5_25 : okAll 5 800 32 = true := by decide +kernel
theorem ok5_26 : okAll 5 832 32 = true := by decide +kernel
theorem ok5_27 : okAll 5 864 32 = true := by decide +kernel
theorem ok5_28 : okAll 5 896 32 = true := by decide +kernel
theorem ok5_29 : okAll 5 928 32 = true := by decide +kernel
theorem ok5_30 : okAll 5 960 32 = true := by decide +kernel
theorem ok5_31 : okAll 5 992 32 = true := by decide +kernel

end Go.Proofs.Yticeekkfdkfcgaa

